import Derived.Test.YtofcnebekmjdoaaGreatDoorKbc
set_option maxHeartbeats 4000000
set_option maxRecDepth 100000
namespace Go.Proofs.YtofcnebekmjdoaaGreatDoor.Bn
open Go.RowKit Go.Proofs.YtofcnebekmjdoaaGreatDoor.Gn
def ado (x:St.Ad):Obj:=.cells #[.int .i64 x.c,.int .i64 x.s,.int .i64 x.m,.int .i64 x.t] 123
theorem ado_cells{w:World}{z:Nat}{x:St.Ad}(h:w.heap[z]?=some (ado x)):w.cell? ⟨z,0,none⟩=some (.int .i64 x.c)∧w.cell? ⟨z,1,none⟩=some (.int .i64 x.s)∧w.cell? ⟨z,2,none⟩=some (.int .i64 x.m)∧w.cell? ⟨z,3,none⟩=some (.int .i64 x.t):=by
 unfold ado at h
 refine ⟨?_,?_,?_,?_⟩<;>simp[World.cell?,h]
theorem Hand.cardPut {w:World} {g base:Nat} {lab:Lab} {b:Bank} {v:Vs} {cs:List CV} {ds:List DV} {tm:Value}(H:Hand w g base lab b v cs ds tm) {k gc cap:Nat} {x:CV}(C:CardIn w lab base v cs k gc cap x) {y:CV}(hy:Ap kU lab w (.slice y.a y.c.u.length y.cap) y.c.u 0):
  Hand (putAll w gc (k *6) (kC.cells y)) g base (relab lab w.heap.size 2) {b with cards:=b.cards.set k y.c} v (cs.set k y) ds tm:=by
 refine ⟨H.mem.cardPut C hy,H.appBlk (only_putAll w gc (k *6) _ C.lb (by decide)) (by decide),by rw[relab_old (lt_of_block H.blk)];exact H.lb⟩
theorem ap_tied {lab:Lab} {w W:World} {a a':Option Addr} {u u':List (Int ×Int)} {cap cap':Nat} (h:Ap kU lab w (.slice a u.length cap) u 0) (hl:Gn.Lies kU W a' cap' u') (ht:Tied w.heap.size a u a' u'):Ap kU (relab lab w.heap.size 0) W (.slice a' u'.length cap') u' 0:=by
 rcases ht with hp|⟨ha,hu⟩
 ·exact ap_new rfl hl hp
 ·obtain ⟨a2,c2,hv2,hl2,hn2⟩:=h
  obtain ⟨rfl,-,rfl⟩:=Value.slice.inj hv2
  subst ha
  refine ⟨_,_,rfl,hl,fun ad had hne=>?_⟩
  rw[hu] at hne
  rw[relab_old (lies_lt hl2 hne ad had)]
  exact hn2 ad had hne
theorem co_put {W:World}{z:Nat}{c0 c:Ca}{a0 a:Option Addr}{k0 cap:Nat}(h:W.heap[z]?=some (co c0 a0 k0)):(((((W.setCell ⟨z,0,none⟩ (.int .i64 c.m)).setCell ⟨z,1,none⟩ (.int .i64 c.h)).setCell ⟨z,2,none⟩ (.int .i64 c.p.t)).setCell ⟨z,3,none⟩ (.int .i64 c.p.c)).setCell ⟨z,4,none⟩ (.int .i64 c.p.s)).setCell ⟨z,5,none⟩ (.slice a c.u.length cap)|>.heap[z]?=some (co c a cap):=by
 unfold co at h⊢
 have h0:=heap_setCell_same W z 0 _ _ (.int .i64 c.m) h
 have h1:=heap_setCell_same _ z 1 _ _ (.int .i64 c.h) h0
 have h2:=heap_setCell_same _ z 2 _ _ (.int .i64 c.p.t) h1
 have h3:=heap_setCell_same _ z 3 _ _ (.int .i64 c.p.c) h2
 have h4:=heap_setCell_same _ z 4 _ _ (.int .i64 c.p.s) h3
 have h5:=heap_setCell_same _ z 5 _ _ (.slice a c.u.length cap) h4
 rw[h5];simp
theorem lies_store {X0 w1 Y:World} {a0 a:Option Addr} {u0 u:List (Int ×Int)} {cap0 cap:Nat} (hl:Gn.Lies kU w1 a cap u) (ht:Tied (X0.heap.size +1) a0 u0 a u) (h0:Gn.Lies kU X0 a0 cap0 u0) (hs:w1.heap.size≤Y.heap.size) (hk:∀k,k≠X0.heap.size→Y.heap[k]?=w1.heap[k]?):Gn.Lies kU Y a cap u:=by
 by_cases hu:u=[]
 ·exact lies_empty hl hu
 refine hl.keep hs fun ad had _=>hk _ ?_
 rcases ht with hp|⟨rfl,rfl⟩
 ·have :=hp ad had;omega
 ·have:= lies_lt h0 hu ad had;omega
theorem Ap.stp {α:Type}{K:Kind α}{lab lab':Lab}{w w':World}{v:Value}{L:List α} (h:Ap K lab w v L 0) (hs:Stp w lab w' lab'):Ap K lab' w' v L 0:=by
 obtain ⟨a,cap,hv,hl,hb⟩:=h
 by_cases h0:L=[]
 ·exact ⟨a,cap,hv,lies_empty hl h0,fun _ _ hn=>absurd h0 hn⟩
 ·refine ⟨a,cap,hv,hl.keep hs.size fun ad ha hlt=>hs.block _ hlt (Or.inl (hb ad ha h0)),fun ad ha _=>?_⟩
  rw [hs.ext _ (lies_lt hl h0 ad ha)];exact hb ad ha h0
theorem tied_less {S S':Nat}{a0 a:Option Addr}{u0 u:List (Int ×Int)}(h:Tied S a0 u0 a u) (hs:S'≤S):Tied S' a0 u0 a u:=by
 rcases h with hp|h
 ·exact Or.inl fun ad had=>Nat.le_trans hs (hp ad had)
 ·exact Or.inr h
theorem ghonour (g base:Nat)(lab:Lab)(b:Bank)(tm:Value)(x:St.Ad)(k:Nat)(w:World)(h:Goes w g base lab b tm)(hx:x.c=k)(hk:k<b.cards.length)(hfew:b.auths.length≤30)
    (hn:(Au.newA x.c x.s x.m x.t).2=0)(hf:(forceC (b.card x.c) x.m).2=0):
    Calls Tryz.prog 138 #[.pointer (some ⟨g,0,none⟩),.agg #[.int .i64 x.c,.int .i64 x.s,.int .i64 x.m,.int .i64 x.t]] w (Done w g base lab tm (honourP b x)):=by
  obtain ⟨v,cs,ds,H⟩:=h
  have hE:Hid (honourP b x=({ b with auths:=b.auths++[(Au.newA x.c x.s x.m x.t).1],cards:=b.cards.set k (forceC (b.card x.c) x.m).1},0)):=hid (by
    unfold honourP;rw[if_neg (by simpa using hn),if_neg (by simpa using hf),hx,Int.toNat_natCast])
  obtain ⟨gc,cap,C,hcc⟩:=H.mem.card hk
  rw[←hx] at hcc
  have hlen:=H.mem.cardsLen
  have hk':k<cs.length:=by omega
  have hk2:(k:Int)<cs.length:=by omega
  have hN:∀X:World,Calls Tryz.prog 154 #[.int .i64 x.c,.int .i64 x.s,.int .i64 x.m,.int .i64 x.t] X fun e w'=>e=.returned (.tuple #[Au.av (Au.newA x.c x.s x.m x.t).1,.int .i64 0])∧Below X.heap.size X w':=fun X=>by
    have :=Au.new_any x.c x.s x.m x.t X
    rw[hn] at this
    exact this
  obtain ⟨q,hq⟩:∃q,Hid (q=cs.getD k zCV):=⟨_,rfl⟩
  rw[←hq.out] at C hcc
  have hF:∀X:World,Gn.Lies kU X q.a q.cap q.c.u→Calls Tryz.prog 162 #[cv q.c q.a q.cap,.int .i64 x.m] X (AnswersO X q.a q.c.u ((forceC q.c x.m).1,0)):=fun X hX=>by
    have :=force_all q.c q.a q.cap x.m X (lies_uses hX)
    rw[←hcc] at hf
    have e:forceC q.c x.m=((forceC q.c x.m).1,0):=by rw[←hf]
    rw[e] at this
    exact this
  rw[←hcc] at hE
  generalize (forceC q.c x.m).1=r1 at*
  generalize (Au.newA x.c x.s x.m x.t).1=y at*
  clear hn hf hcc
  have hb0:=below_alloc w (ado x)
  have H1:=H.below hb0
  have S1:=stp_below (lab:=lab) hb0
  have hbx:(w.alloc (ado x)).heap[w.heap.size]?=some (ado x):=heap_alloc_at _ _ _ rfl
  have hxl:relab lab w.heap.size 0 w.heap.size=0:=relab_new (Nat.le_refl _)
  unfold AnswersO cv at hF
  unfold Au.av at hN
  obtain ⟨xc,xs,xm,xt⟩:=x
  dsimp only at*
  subst hx
  unfold ado at*
  obtain ⟨W,hWd⟩:∃W,w.alloc (.cells #[.int .i64 (k:Int),.int .i64 xs,.int .i64 xm,.int .i64 xt] 123)=W:=⟨_,rfl⟩
  rw[hWd] at hbx H1 S1 hb0
  obtain ⟨t0,t1,t2,t3⟩:=ado_cells (x:=⟨k,xs,xm,xt⟩) hbx
  dsimp only at t0 t1 t2 t3
  have hlo:w.heap.size<W.heap.size:=lt_of_block hbx
  have hZ0:=S1.size
  go_enter Tryz.func138,Tryz.ntmps138
  go_upto_region 1 with fail
  try rw[hWd]
  clear hWd
  go_upto_region 3 with (go_at_call 154;refine (hN _).mono ?_;rintro e w1 ⟨rfl,hb1⟩)
  have hb1':=bel_alloc hb1 (.cells #[.int .i64 y.card,.int .i64 y.shop,.int .i64 y.sum,.int .i64 y.cap,.int .i64 y.ref,.int .i64 y.dis,.int .i64 y.till,.bool y.shut] 66)
  have hyb:(w1.alloc (.cells #[.int .i64 y.card,.int .i64 y.shop,.int .i64 y.sum,.int .i64 y.cap,.int .i64 y.ref,.int .i64 y.dis,.int .i64 y.till,.bool y.shut] 66)).heap[w1.heap.size]?=some (auo y):=heap_alloc_at w1 (auo y) _ rfl
  have hYW:W.heap.size≤w1.heap.size:=hb1.size
  generalize w1.alloc (.cells #[.int .i64 y.card,.int .i64 y.shop,.int .i64 y.sum,.int .i64 y.cap,.int .i64 y.ref,.int .i64 y.dis,.int .i64 y.till,.bool y.shut] 66)=X0 at*
  generalize w1.heap.size=ZA at*
  have H2:=H1.below hb1'
  have S2:=S1.trans (stp_below hb1')
  have X2:X0.heap[w.heap.size]?=some (.cells #[.int .i64 (k:Int),.int .i64 xs,.int .i64 xm,.int .i64 xt] 123):=(hb1'.block _ hlo).trans hbx
  have X2l:relab (relab lab w.heap.size 0) W.heap.size 0 w.heap.size=0:=by rw[relab_old hlo];exact hxl
  have Y2l:relab (relab lab w.heap.size 0) W.heap.size 0 ZA=0:=relab_new hYW
  clear hb1 hb1' hbx hxl t0 t1 t2 t3 C
  generalize relab (relab lab w.heap.size 0) W.heap.size 0=lab2 at*
  obtain ⟨gc,cap,C,-⟩:=H2.mem.card hk
  rw[←hq.out] at C
  obtain ⟨-,-,c2,-⟩:=blk_cells H2.blk
  rw[C.val] at c2
  obtain ⟨t0,t1,t2,t3⟩:=ado_cells (x:=⟨k,xs,xm,xt⟩) X2
  dsimp only at t0 t1 t2 t3
  have hgl:=lt_of_block H2.blk
  have hzl:=lt_of_block X2
  have hLq:Gn.Lies kU X0 q.a q.cap q.c.u:=C.uses.out
  have kp:∀X:World,Below X0.heap.size X0 X→X.cell? ⟨g,2,none⟩=some (.slice (some ⟨gc,0,none⟩) cs.length cap)∧X.cell? ⟨w.heap.size,0,none⟩=some (.int .i64 (k:Int))∧X.cell? ⟨w.heap.size,2,none⟩=some (.int .i64 xm)∧X.cell? ⟨gc,k*6,none⟩=some (.int .i64 q.c.m)∧X.cell? ⟨gc,k*6+1,none⟩=some (.int .i64 q.c.h)∧X.cell? ⟨gc,k*6+2,none⟩=some (.int .i64 q.c.p.t)∧X.cell? ⟨gc,k*6+3,none⟩=some (.int .i64 q.c.p.c)∧X.cell? ⟨gc,k*6+4,none⟩=some (.int .i64 q.c.p.s)∧X.cell? ⟨gc,k*6+5,none⟩=some (.slice q.a q.c.u.length q.cap):=fun X hX=>
    ⟨(hX.cell (p:=⟨g,2,none⟩) hgl).trans c2,(hX.cell (p:=⟨w.heap.size,0,none⟩) hzl).trans t0,(hX.cell (p:=⟨w.heap.size,2,none⟩) hzl).trans t2,(hX.cell (p:=⟨gc,k*6,none⟩) C.lt).trans C.c0,(hX.cell (p:=⟨gc,k*6+1,none⟩) C.lt).trans C.c1,(hX.cell (p:=⟨gc,k*6+2,none⟩) C.lt).trans C.c2,(hX.cell (p:=⟨gc,k*6+3,none⟩) C.lt).trans C.c3,(hX.cell (p:=⟨gc,k*6+4,none⟩) C.lt).trans C.c4,(hX.cell (p:=⟨gc,k*6+5,none⟩) C.lt).trans C.c5⟩
  go_cut[7,6] from 23 to 37(fun p q' wc=>∃Z a' cap',p=.pointer (some ⟨Z,0,none⟩)∧q'=.int .i64 0∧X0.heap.size≤Z∧wc.heap[Z]?=some (co r1 a' cap')∧Gn.Lies kU wc a' cap' r1.u∧Tied X0.heap.size q.a q.c.u a' r1.u∧Below X0.heap.size X0 wc)
  case first=>
    refine wp_region_held_drew (S:=(fun X=>X.cell? ⟨g,2,none⟩=some (.slice (some ⟨gc,0,none⟩) cs.length cap)∧X.cell? ⟨w.heap.size,0,none⟩=some (.int .i64 (k:Int))∧X.cell? ⟨w.heap.size,2,none⟩=some (.int .i64 xm)∧X.cell? ⟨gc,k*6,none⟩=some (.int .i64 q.c.m)∧X.cell? ⟨gc,k*6+1,none⟩=some (.int .i64 q.c.h)∧X.cell? ⟨gc,k*6+2,none⟩=some (.int .i64 q.c.p.t)∧X.cell? ⟨gc,k*6+3,none⟩=some (.int .i64 q.c.p.c)∧X.cell? ⟨gc,k*6+4,none⟩=some (.int .i64 q.c.p.s)∧X.cell? ⟨gc,k*6+5,none⟩=some (.slice q.a q.c.u.length q.cap))) (by kernel_rfl) (kp _ ((Below.refl _ _).drew)) (fun hS=>?_)
    refine tk 0 (.pointer (some ⟨g,0,none⟩)) hS ?_ ?_
    ·intro w' _;go_simp
    refine tk 1 (.pointer (some ⟨g,0,none⟩)) hS ?_ ?_
    ·intro w' _;go_simp
    refine tk 2 (.pointer (some ⟨g,0,none⟩)) hS ?_ ?_
    ·intro w' _;go_simp
    refine tk 3 (.pointer (some ⟨g,2,none⟩)) hS ?_ ?_
    ·intro w' _;go_simp
    try simp only[Act.put]
    refine tk 4 (.slice (some ⟨gc,0,none⟩) cs.length cap) hS ?_ ?_
    ·intro w' hS';obtain ⟨E1,E2,E3,k0,k1,k2,k3,k4,k5⟩:=hS';go_simp
    refine tk 5 (.pointer (some ⟨w.heap.size,0,none⟩)) hS ?_ ?_
    ·intro w' _;go_simp
    refine tk 6 (.int .i64 (k:Int)) hS ?_ ?_
    ·intro w' hS';obtain ⟨E1,E2,E3,k0,k1,k2,k3,k4,k5⟩:=hS';go_simp
    refine tk 7 (.pointer (some ⟨gc,k*6,none⟩)) hS ?_ ?_
    ·intro w' _;go_simp
    try simp only[Act.put]
    refine tk 8 (.agg #[.int .i64 q.c.m,.int .i64 q.c.h,.int .i64 q.c.p.t,.int .i64 q.c.p.c,.int .i64 q.c.p.s,.slice q.a q.c.u.length q.cap]) hS ?_ ?_
    ·intro w' hS';obtain ⟨E1,E2,E3,k0,k1,k2,k3,k4,k5⟩:=hS';go_simp
    refine tk 9 (.pointer (some ⟨w.heap.size,2,none⟩)) hS ?_ ?_
    ·intro w' _;go_simp
    refine tk 10 (.int .i64 xm) hS ?_ ?_
    ·intro w' hS';obtain ⟨E1,E2,E3,k0,k1,k2,k3,k4,k5⟩:=hS';go_simp
    try simp only[Act.put]
    refine wpAnyH_ready (rs:=[11,15]) (by kernel_rfl) (by simp) ?_
    refine AllReadyH.cons rfl (fun K hK=>?_) (AllReadyH.cons rfl (fun K hK=>?_) AllReadyH.nil)
    · go_simp
      refine (hF _ (hLq.below ((Below.refl _ _).drew))).mono ?_
      rintro e w5 ⟨a',cap',rfl,hl5,ht5,hb5⟩
      have hb5:Below X0.heap.size X0 w5:=((Below.refl _ _).drew).trans hb5
      go_simp
      refine hK.out _ _ (kp _ hb5) (fun hS=>?_)
      clear hK K
      refine tk 12 (.tuple #[.agg #[.int .i64 r1.m,.int .i64 r1.h,.int .i64 r1.p.t,.int .i64 r1.p.c,.int .i64 r1.p.s,.slice a' r1.u.length cap'],.int .i64 0]) hS ?_ ?_
      ·intro w' _;go_simp
      refine tk 13 (.agg #[.int .i64 r1.m,.int .i64 r1.h,.int .i64 r1.p.t,.int .i64 r1.p.c,.int .i64 r1.p.s,.slice a' r1.u.length cap']) hS ?_ ?_
      ·intro w' _;go_simp
      refine tk 14 (.int .i64 0) hS ?_ ?_
      ·intro w' _;go_simp
      try simp only[Act.put]
      refine rd 15 (.cons rfl (fun K hK=>?_) .nil)
      go_simp
      refine hK.out _ _ (kp _ (bel_alloc hb5 _)) (fun hS=>?_)
      clear hK K
      try simp only[nrm,Act.put]
      refine rd 16 (.cons rfl (fun K hK=>?_) .nil)
      go_simp
      refine hK.out _ _ (kp _ (bel_alloc hb5 _)) (fun hS=>?_)
      clear hK K
      try simp only[nrm,Act.put]
      refine rd 17 (.cons rfl (fun K hK=>?_) .nil)
      go_simp
      refine hK.out _ _ (kp _ (bel_alloc hb5 _)) (fun hS=>?_)
      clear hK K
      try simp only[nrm,Act.put]
      refine wpAnyH_done (by kernel_rfl) ?_ _
      go_wp2_with fail
      go_meet
      exact ⟨w5.heap.size,a',cap',rfl,rfl,hb5.size,heap_alloc_at w5 (co r1 a' cap') _ rfl,(uses_lies hl5).alloc _,ht5,bel_alloc hb5 _⟩
    · go_simp
      refine hK.out _ _ (kp _ (bel_alloc (Below.refl _ _) _).drew) (fun hS=>?_)
      clear hK K
      try simp only[nrm,Act.put]
      refine rd 11 (.cons rfl (fun K hK=>?_) .nil)
      go_simp
      refine (hF _ (hLq.below ((bel_alloc (Below.refl _ _) (.cells #[.int .i64 0,.int .i64 0,.int .i64 0,.int .i64 0,.int .i64 0,.slice none 0 0] 61)).drew))).mono ?_
      rintro e w5 ⟨a',cap',rfl,hl5,ht5,hb5⟩
      have hz1:w5.heap[X0.heap.size]?=some (co zeroC none 0):=(hb5.block _ (by simp)).trans (heap_alloc_at _ _ _ rfl)
      have ht5:Tied (X0.heap.size +1) q.a q.c.u a' r1.u:=by simpa using ht5
      have hb5:Below X0.heap.size X0 w5:=(bel_alloc (Below.refl _ _) (.cells #[.int .i64 0,.int .i64 0,.int .i64 0,.int .i64 0,.int .i64 0,.slice none 0 0] 61)).drew.trans (hb5.mono (by simp))
      go_simp
      refine hK.out _ _ (kp _ hb5) (fun hS=>?_)
      clear hK K
      refine tk 12 (.tuple #[.agg #[.int .i64 r1.m,.int .i64 r1.h,.int .i64 r1.p.t,.int .i64 r1.p.c,.int .i64 r1.p.s,.slice a' r1.u.length cap'],.int .i64 0]) hS ?_ ?_
      ·intro w' _;go_simp
      refine tk 13 (.agg #[.int .i64 r1.m,.int .i64 r1.h, .int .i64 r1.p.t, .int .i64 r1.p.c, .int .i64 r1.p.s, .slice a' r1.u.length cap']) hS ?_ ?_
      · intro w' _; go_simp
      refine tk 14 (.int .i64 0) hS ?_ ?_
      · intro w' _; go_simp
      obtain ⟨z0, z1, z2, z3, z4, z5⟩ := co_cells hz1
      have zf : ∀ p, w5.frozen? ⟨X0.heap.size, p, none⟩ = false := fun p => by unfold co at hz1; simp [World.frozen?, hz1]
      have zf0 := zf 0
      have zf1 := zf 1
      have zf2 := zf 2
      have zf3 := zf 3
      have zf4 := zf 4
      have zf5 := zf 5
      try simp only [Act.put]
      refine rd 16 (.cons rfl (fun K hK => ?_) .nil)
      go_simp
      have hY8 := co_put (c := r1) (a := a') (cap := cap') hz1
      have hbY : Below X0.heap.size X0 ((((((w5.setCell ⟨X0.heap.size, 0, none⟩ (.int .i64 r1.m)).setCell ⟨X0.heap.size, 1, none⟩ (.int .i64 r1.h)).setCell ⟨X0.heap.size, 2, none⟩ (.int .i64 r1.p.t)).setCell ⟨X0.heap.size, 3, none⟩ (.int .i64 r1.p.c)).setCell ⟨X0.heap.size, 4, none⟩ (.int .i64 r1.p.s)).setCell ⟨X0.heap.size, 5, none⟩ (.slice a' r1.u.length cap')) := by repeat (first | refine Below.setCell ?_ (by first | (simp; done) | omega) _ | exact hb5)
      have hlY : Gn.Lies kU ((((((w5.setCell ⟨X0.heap.size, 0, none⟩ (.int .i64 r1.m)).setCell ⟨X0.heap.size, 1, none⟩ (.int .i64 r1.h)).setCell ⟨X0.heap.size, 2, none⟩ (.int .i64 r1.p.t)).setCell ⟨X0.heap.size, 3, none⟩ (.int .i64 r1.p.c)).setCell ⟨X0.heap.size, 4, none⟩ (.int .i64 r1.p.s)).setCell ⟨X0.heap.size, 5, none⟩ (.slice a' r1.u.length cap')) a' cap' r1.u := lies_store (uses_lies hl5) ht5 hLq (by simp) (fun k hk => by repeat (first | rw [heap_setCell_other _ _ _ _ hk]))
      generalize ((((((w5.setCell ⟨X0.heap.size, 0, none⟩ (.int .i64 r1.m)).setCell ⟨X0.heap.size, 1, none⟩ (.int .i64 r1.h)).setCell ⟨X0.heap.size, 2, none⟩ (.int .i64 r1.p.t)).setCell ⟨X0.heap.size, 3, none⟩ (.int .i64 r1.p.c)).setCell ⟨X0.heap.size, 4, none⟩ (.int .i64 r1.p.s)).setCell ⟨X0.heap.size, 5, none⟩ (.slice a' r1.u.length cap')) = Y at *
      refine hK.out _ _ (kp _ hbY) (fun hS => ?_)
      clear hK K
      try simp only [nrm, Act.put]
      refine rd 17 (.cons rfl (fun K hK => ?_) .nil)
      go_simp
      refine hK.out _ _ (kp _ hbY) (fun hS => ?_)
      clear hK K
      try simp only [nrm, Act.put]
      refine wpAnyH_done (by kernel_rfl) ?_ _
      go_wp2_with fail
      go_meet
      exact ⟨X0.heap.size, a', cap', rfl, rfl, Nat.le_refl _, hY8, hlY, tied_less ht5 (by omega), hbY⟩
  case rest =>
    obtain ⟨Z, a', cap', rfl, rfl, hZ, hZb, hZl, hZt, hbc⟩ := hcut
    clear kp hF hN c2 t0 t1 t2 t3
    have X3 := (hbc.block _ hzl).trans X2
    have Y3 := (hbc.block _ (lt_of_block hyb)).trans hyb
    have H3 := H2.below hbc
    have S3 := S2.trans (stp_below hbc)
    have u3 := ap_tied C.uses hZl hZt
    have X3l : relab lab2 X0.heap.size 0 w.heap.size = 0 := by rw [relab_old hzl]; exact X2l
    have Y3l : relab lab2 X0.heap.size 0 ZA = 0 := by rw [relab_old (lt_of_block hyb)]; exact Y2l
    have Z3l : relab lab2 X0.heap.size 0 Z = 0 := relab_new hZ
    clear hbc hZ hZl hZt X2 hyb hzl hgl hLq C X2l Y2l
    generalize relab lab2 X0.heap.size 0 = lab3 at *
    generalize wc = W3 at *
    obtain ⟨a4, cap4, hv4⟩ := H3.mem.auths.form
    obtain ⟨-, -, -, -, c4, -⟩ := blk_cells H3.blk
    rw [hv4] at c4
    have hrow := H3.mem.auths.row
    rw [hv4] at hrow
    have hoff := H3.off H3.mem.auths (by decide)
    rw [hv4] at hoff
    have hWb : base ≤ W3.heap.size := H3.mem.lo
    have hfa := H3.mem.auths
    rw [hv4] at hfa
    obtain ⟨y0, y1, y2, y3, y4, y5, y6, y7⟩ := (auo_cells Y3).all
    go_upto_region 7 with fail
    have CA : ∀ o, (W3.alloc o).cell? ⟨g, 4, none⟩ = some (.slice a4 b.auths.length cap4) := fun o => (World.cell?_alloc_past _ _ _ (lt_of_block H3.blk)).trans c4
    go_region_law
      (first
        | (refine step_append elemAu _ rfl (.tmp 46) (.tmp 48) rfl base (.slice a4 b.auths.length cap4) b.auths rfl (by repeat (first | exact hrow | refine Row.drew ?_ | refine Row.alloc ?_ _)) _ 1 1 [y] rfl rfl (lies_one (by repeat (first | exact heap_alloc_at _ _ _ (by first | omega | (simp; done) | (simp; omega)) | rw [heap_drew])) rfl _) (by simp [maxLen]; omega) (by simp; omega) (by first | omega | (simp; done) | (simp; omega)) ?_
           intro v1 w2 hown hgrow hat hon
           have B4 := (bel_alloc (Below.refl W3.heap.size W3) (.cells #[.int .i64 y.card, .int .i64 y.shop, .int .i64 y.sum, .int .i64 y.cap, .int .i64 y.ref, .int .i64 y.dis, .int .i64 y.till, .bool y.shut] 66)).drew
           have H4 := H3.below B4
           have S4 := stp_below (lab := lab3) B4
           have hT := H4.mem.auths
           rw [hv4] at hT
           have ho := only_grown hgrow hT.lab (by decide)
           have hg2 := H4.appBlk ho (by decide)
           have D4 := (blk_cells hg2).2.2.2.2.1
           rw [hv4] at D4
           have F4 := blk_free hg2 4
           obtain ⟨a1, cap1, rfl, -, -, -⟩ := hown.lies
           have H5 := H4.app ho (by decide) (H4.mem.authsTo ho (hT.grow hown (fun _ => hon (by simp)) hat)) (i := 4) (x := .slice a1 (b.auths ++ [y]).length cap1) (by rfl)
           have S5 := S4.trans ((stp_only ho (by decide)).trans (stp_set (x := .slice a1 (b.auths ++ [y]).length cap1) (i := 4) (by rw [relab_old (lt_of_block H4.blk)]; exact H4.lb)))
           clear hT hgrow hat hon hown H4 S4 B4)
        | fail)
    all_goals
      rw [List.length_append] at H5 S5
      have S6 := S3.trans S5
      have X6 := S5.at X3 X3l
      have Z6 := S5.at hZb Z3l
      have u6 := u3.stp S5
      clear S3 X3 hZb Y3 u3 H3 X3l Y3l Z3l S5 S2 H2 S1 H1 H hrow hoff hfa c4 CA y0 y1 y2 y3 y4 y5 y6 y7 D4 F4
      obtain ⟨W6, hW6⟩ : ∃ W6, Hid (W6 = w2.setCell ⟨g, 4, none⟩ (.slice a1 (b.auths.length + 1) cap1)) := ⟨_, rfl⟩
      try simp only [List.length_singleton] at H5 S6 X6 Z6 u6
      rw [← hW6.out] at H5 S6 X6 Z6 u6
      rw [← hW6.out]
      clear hW6
      have hcl : b.cards.length = ({ b with auths := b.auths ++ [y] } : Bank).cards.length := rfl
      obtain ⟨gc, cap, C, -⟩ := H5.mem.card (k := k) hk
      rw [← hq.out] at C
      obtain ⟨-, -, c2, -⟩ := blk_cells H5.blk
      have hval : v.c = _ := C.val
      dsimp only at c2
      rw [hval] at c2
      obtain ⟨t0, t1, t2, t3⟩ := ado_cells (x := ⟨k, xs, xm, xt⟩) X6
      dsimp only at t0 t1 t2 t3
      obtain ⟨q0, q1, q2, q3, q4, q5⟩ := (⟨C.c0, C.c1, C.c2, C.c3, C.c4, C.c5⟩ : _ ∧ _ ∧ _ ∧ _ ∧ _ ∧ _)
      obtain ⟨x0, x1, x2, x3, x4, x5⟩ := co_cells Z6
      have z0 := C.fz (k * 6)
      have z1 := C.fz (k * 6 + 1)
      have z2 := C.fz (k * 6 + 2)
      have z3 := C.fz (k * 6 + 3)
      have z4 := C.fz (k * 6 + 4)
      have z5 := C.fz (k * 6 + 5)
      have H7 := H5.cardPut C (y := ⟨r1, a', cap'⟩) u6
      have S7 := S6.trans (stp_putAll (w := W6) C.lb (by decide) (by decide) (k * 6) (kC.cells ⟨r1, a', cap'⟩))
      go_upto_region 8 with fail
      go_region
      all_goals
        go_wp2_with fail
        go_ret
        unfold Done
        rw [hE.out]
        exact ⟨rfl, _, H7.goes.drew, S7.drew⟩
theorem Ap.at {α:Type}{K:Kind α}{lab:Lab}{w:World}{v:Value}{L:List α}{j:Nat}(h:Ap K lab w v L j):St.At K w v L:=h.lies
def dno (u:Int) (v1 v2:Value):Obj:=.cells #[.int .i64 u,v1,v2] 38
theorem dno_cells {w:World} {z:Nat} {u:Int} {v1 v2:Value} (h:w.heap[z]?=some (dno u v1 v2)):w.cell? ⟨z,0,none⟩=some (.int .i64 u)∧w.cell? ⟨z,1,none⟩=some v1∧w.cell? ⟨z,2,none⟩=some v2:=by
 unfold dno at h
 refine ⟨?_,?_,?_⟩<;>simp[World.cell?,h]
theorem Hand.standPut {w:World}{g base:Nat}{lab:Lab}{b:Bank}{v:Vs}{cs:List CV}{ds:List DV}{tm:Value}(H:Hand w g base lab b v cs ds tm){s:St.Sd}{v1 v2:Value}(h1:Ap kI lab w v1 s.used 0) (h2:Ap St.kA lab w v2 s.adv 0):
  ∃lab',Hand (((w.setCell ⟨g,13,none⟩ (.int .i64 s.cap)).setCell ⟨g,14,none⟩ v1).setCell ⟨g,15,none⟩ v2) g base lab' {b with stand:=s} {v with us:=v1,ad:=v2} cs ds tm∧Stp w lab (((w.setCell ⟨g,13,none⟩ (.int .i64 s.cap)).setCell ⟨g,14,none⟩ v1).setCell ⟨g,15,none⟩ v2) lab':=by
 have H1:=H.mem.standTo h1 h2
 have l0:=lt_of_block H.blk
 have q1:(w.setCell ⟨g,13,none⟩ (.int .i64 s.cap)).heap[g]?=some (.cells ((cellsB b v tm).setIfInBounds 13 (.int .i64 s.cap)) (tyB tm)):=blk_put H.blk 13 _
 have l1:relab lab w.heap.size 1 g=1:=by rw[relab_old l0];exact H.lb
 have q2:=heap_setCell_same _ g 14 _ _ v1 q1
 have l2:relab (relab lab w.heap.size 1) (w.setCell ⟨g,13,none⟩ (.int .i64 s.cap)).heap.size 1 g=1:=by rw[relab_old (lt_of_block q1)];exact l1
 have q3:=heap_setCell_same _ g 15 _ _ v2 q2
 refine ⟨_,⟨((H1.gput H.lb 13 _).gput l1 14 _).gput l2 15 _,?_,by rw[relab_old (lt_of_block q2)];exact l2⟩,((stp_set H.lb 13 _).trans (stp_set l1 14 _)).trans (stp_set l2 15 _)⟩
 rw[q3]
 rfl
theorem upK_end (b:Bank):upK b b.stand.adv.length={b with cards:=b.stand.adv.foldl forceL b.cards,auths:=b.auths++b.stand.adv.map advA}:=by unfold upK;rw[List.take_length]
theorem honourP_zero {b b':Bank}{x:St.Ad}(h:honourP b x=(b',0)):(Au.newA x.c x.s x.m x.t).2=0∧(forceC (b.card x.c) x.m).2=0:=by
 unfold honourP at h
 by_cases q1:(Au.newA x.c x.s x.m x.t).2=0
 ·rw[if_neg (by simpa using q1)] at h
  by_cases q2:(forceC (b.card x.c) x.m).2=0
  ·exact ⟨q1,q2⟩
  ·rw[if_pos q2] at h;exact absurd (congrArg Prod.snd h) q2
 ·rw[if_pos q1] at h;exact absurd (congrArg Prod.snd h) q1
theorem upK_few (b:Bank) (k:Nat):(upK b k).auths.length≤b.auths.length+b.stand.adv.length:=by
 unfold upK;simp;omega
theorem gup (g base:Nat) (lab:Lab) (b:Bank) (tm:Value) (w:World) (h:Goes w g base lab b tm) (I:Inv b):Calls Tryz.prog 104 #[.pointer (some ⟨g,0,none⟩)] w (Done w g base lab tm (upB b)):=by
 obtain ⟨v,cs,ds,H⟩:=h
 have c1:=(blk_cells H.blk).2.1
 have cad:=(blk_cells H.blk).2.2.2.2.2.2.2.2.2.2.2.2.2.2.2.1
 cases hd:b.down with
 |false=>
  have hE:Hid (upB b=(b,8)):=hid (by unfold upB;rw[if_neg (by rw[hd];simp)])
  rw[hd] at c1
  clear cad
  go_enter Tryz.func104,Tryz.ntmps104
  go_wp2_with fail
  go_ret
  unfold Done
  rw[hE.out]
  exact ⟨rfl,_,H.goes,Stp.refl _ _⟩
 |true=>
  rw[hd] at c1
  have hmid:=hid (up_mid I hd)
  have hE:Hid (upB b=(shutB {b with cards:=b.stand.adv.foldl forceL b.cards,auths:=b.auths++b.stand.adv.map advA,down:=false,stand:=⟨b.stand.cap,List.replicate b.cards.length 0,[]⟩},0)):=hid (by unfold upB;rw[if_pos hd])
  have hA:=H.mem.adv
  obtain ⟨a0,cap0,hv0,hl0,hn0⟩:=hA
  have hA:Ap St.kA lab w (.slice a0 b.stand.adv.length cap0) b.stand.adv 0:=⟨a0,cap0,rfl,hl0,hn0⟩
  rw[hv0] at cad
  have hlen:b.stand.adv.length≤30:=by have:= I.held.few;omega
  have G0:Goes w g base lab (upK b 0) tm:=by rw[upK_zero];exact H.goes
  have HI:=hid I
  have hEnd:=hid (upK_end b)
  clear I H
  go_enter Tryz.func104,Tryz.ntmps104
  go_wp2_with fail
  go_loopw[22](fun i wr=>∃(k:Nat) (l:Lab),k≤b.stand.adv.length∧i=.int .i64 k∧Goes wr g base l (upK b k) tm∧Stp w lab wr l) (fun i _=>b.stand.adv.length-(intOf i).toNat)
  case atStart=>exact ⟨0,lab,Nat.zero_le _,rfl,G0,Stp.refl _ _⟩
  case round=>
   clear G0
   obtain ⟨k,l,hk,rfl,G1,S1⟩:=hrel
   by_cases hlt:k<b.stand.adv.length
   ·have hlt':(k:Int)<b.stand.adv.length:=by omega
    obtain ⟨hst,⟨hc0,hc1⟩,hcl⟩:=up_step HI.out hlt
    obtain ⟨hz1,hz2⟩:=honourP_zero hst
    have hfew:(upK b k).auths.length≤30:=Nat.le_trans (upK_few b k) (by have:= HI.out.held.few;omega)
    have A1:=hA.stp S1
    obtain ⟨z,off,ha,hlz,hel⟩:=A1.out.elem (i:=k) (x:=b.stand.adv.getD k zAd) (by simp[List.getD,hlt])
    obtain ⟨c,hc⟩:∃c:Nat,(b.stand.adv.getD k zAd).c=c:=⟨_,(Int.toNat_of_nonneg hc0).symm⟩
    have GH:=fun (X:World) (l' :Lab) (hX :Goes X g base l' (upK b k) tm)=>ghonour g base l' (upK b k) tm (b.stand.adv.getD k zAd) c X hX hc (by rw[hcl];omega) hfew hz1 hz2
    have e0:=hel 0 _ rfl
    have e1:=hel 1 _ rfl
    have e2:=hel 2 _ rfl
    have e3:=hel 3 _ rfl
    rw[hst] at GH
    subst ha
    clear hst hz1 hz2 hc hc0 hc1 hcl hel A1
    generalize b.stand.adv.getD k zAd=x at*
    have B2:=below_alloc wr (.cells #[.int .i64 x.c,.int .i64 x.s,.int .i64 x.m,.int .i64 x.t] 123)
    have G2:=G1.below B2
    have S2:=S1.trans (stp_below (lab:=l) B2)
    have GH2:=GH _ _ G2
    unfold Done at GH2
    have hk1:k+1≤b.stand.adv.length:=hlt
    clear GH G1 S1 B2
    obtain ⟨r,hr⟩:∃r,Hid (r=upK b (k+1)):=⟨_,rfl⟩
    rw[←hr.out] at GH2
    change wr.cell? ⟨z,off+k*4,none⟩=_ at e0
    change wr.cell? ⟨z,off+k*4+1,none⟩=_ at e1
    change wr.cell? ⟨z,off+k*4+2,none⟩=_ at e2
    change wr.cell? ⟨z,off+k*4+3,none⟩=_ at e3
    go_wp2_with (go_at_call 138;refine GH2.mono ?_;rintro e w5 ⟨rfl,lab5,G5,S5⟩)
    go_roundw
    case rel=>rw[hr.out] at G5;exact ⟨k+1,_,hk1,by go_num,G5,S2.trans S5⟩
    case measure=>simp[intOf];omega
   ·have hke:k=b.stand.adv.length:=by omega
    subst hke
    rw[hEnd.out] at G1
    clear hEnd hA hl0 hn0
    have hcl:=St.clear_ok (HI.out.held.stand).wrong
    have hsN:=HI.out.held.standN
    rw[hsN] at hcl
    clear hlt hk HI c1 cad
    obtain ⟨v5,cs5,ds5,H5⟩:=G1
    obtain ⟨-,d1,-,-,-,-,-,-,-,-,-,-,-,d13,d14,d15,-⟩:=blk_cells H5.blk
    obtain ⟨u1,n1,hu1,-⟩:=H5.mem.used.lies
    obtain ⟨u2,n2,hu2,-⟩:=H5.mem.adv.lies
    have hC:=St.clear_any b.stand v5.us v5.ad wr H5.mem.used.at H5.mem.adv.at
    dsimp only at d1 d13 d14 d15 hu1 hu2
    rw[hcl,hu1,hu2] at hC
    rw[hu1] at d14
    rw[hu2] at d15
    unfold St.AnswersC St.dv at hC
    dsimp only at hC
    replace hu1:=hid hu1
    replace hu2:=hid hu2
    clear hcl hsN hd hv0 hlen
    go_upto_region 13 with (go_at_call 139;refine hC.mono ?_;rintro e w6 ⟨v1,v2,v3,rfl,r1,r2,r3,hb6⟩;obtain ⟨a1,m1,rfl,hl1,hp1,-⟩:=r1.lies;obtain ⟨a2,m2,rfl,hl2,hp2,-⟩:=r2.lies)
    have hbW:=bel_alloc hb6 (.cells #[.int .i64 b.stand.cap,.slice a1 b.cards.length m1,.slice a2 0 m2] 38)
    have hbx:(w6.alloc (.cells #[.int .i64 b.stand.cap,.slice a1 b.cards.length m1,.slice a2 0 m2] 38)).heap[w6.heap.size]?=some (dno b.stand.cap (.slice a1 b.cards.length m1) (.slice a2 0 m2)):=heap_alloc_at _ _ _ rfl
    have p1:Ap kI (relab l wr.heap.size 0) (w6.alloc (.cells #[.int .i64 b.stand.cap,.slice a1 b.cards.length m1,.slice a2 0 m2] 38)) (.slice a1 b.cards.length m1) (List.replicate b.cards.length 0) 0:=ap_new (by rw[List.length_replicate]) (hl1.alloc _) hp1
    have p2:Ap St.kA (relab l wr.heap.size 0) (w6.alloc (.cells #[.int .i64 b.stand.cap,.slice a1 b.cards.length m1,.slice a2 0 m2] 38)) (.slice a2 0 m2) [] 0:=ap_new rfl (hl2.alloc _) hp2
    have H6:=H5.below hbW
    have S6:=S1.trans (stp_below hbW)
    clear hbW hl1 hl2 hp1 hp2 r1 r2 r3 hC d13 d14 d15 H5 S1
    generalize w6.alloc (.cells #[.int .i64 b.stand.cap,.slice a1 b.cards.length m1,.slice a2 0 m2] 38)=W6 at*
    generalize w6.heap.size=Z at*
    generalize relab l wr.heap.size 0=l6 at*
    clear hb6
    obtain ⟨x0,x1,x2⟩:=dno_cells hbx
    obtain ⟨-,-,-,-,-,-,-,-,-,-,-,-,-,d13,d14,d15,-⟩:=blk_cells H6.blk
    rw[hu1.out] at d14
    rw[hu2.out] at d15
    dsimp only at d13
    have f13:=blk_free H6.blk 13
    have f14:=blk_free H6.blk 14
    have f15:=blk_free H6.blk 15
    obtain ⟨l7,H7,S7⟩:=H6.standPut (s:=⟨b.stand.cap,List.replicate b.cards.length 0,[]⟩) p1 p2
    have S8:=S6.trans S7
    clear S7 p1 p2 S6
    go_upto_region 14 with fail
    try dsimp only at H7 S8
    generalize ((W6.setCell ⟨g,13,none⟩ (.int .i64 b.stand.cap)).setCell ⟨g,14,none⟩ (.slice a1 b.cards.length m1)).setCell ⟨g,15,none⟩ (.slice a2 0 m2)=W7 at*
    have f1:=blk_free H7.blk 1
    have g1:=(blk_cells H7.blk).2.1
    clear d13 d14 d15
    have H8:=H7.put1 (b':={b with cards:=b.stand.adv.foldl forceL b.cards,auths:=b.auths++b.stand.adv.map advA,down:=false,stand:=⟨b.stand.cap,List.replicate b.cards.length 0,[]⟩}) (H7.mem.plain b.time false b.seen) (i:=1) (x:=.bool false) rfl
    have S9:=S8.trans (stp_set (w:=W7) H7.lb 1 (.bool false))
    have hL:=glate g base _ _ tm _ H8.goes hmid.out
    unfold Done at hL
    clear H8 H7 S8 H6 f13 f14 f15 x0 x1 x2 hbx d1 hmid
    go_upto_region 15 with fail
    generalize W7.setCell ⟨g,1,none⟩ (.bool false)=W8 at*
    go_wp2_with (go_at_call 133;refine hL.mono ?_;rintro e w9 ⟨rfl,lab9,G9,T9⟩)
    go_ret
    unfold Done
    rw[hE.out]
    exact ⟨rfl,_,G9,S9.trans T9⟩
end Go.Proofs.YtofcnebekmjdoaaGreatDoor.Bn
