import Derived.Test.YtofcnebekmjdoaaGreatDoorKbb
set_option maxHeartbeats 4000000
set_option maxRecDepth 100000
namespace Go.Proofs.YtofcnebekmjdoaaGreatDoor.Bn
open Go.RowKit Go.Proofs.YtofcnebekmjdoaaGreatDoor.Gn
def ddo (d:Dd):Obj:=.cells #[.int .i64 d.id,.int .i64 d.kind,.int .i64 d.n,.int .i64 d.shop,.int .i64 d.mv,.int .i64 d.sum] 74
def ddv (d:Dd):Value:=.agg #[.int .i64 d.id,.int .i64 d.kind,.int .i64 d.n,.int .i64 d.shop,.int .i64 d.mv,.int .i64 d.sum]
theorem ddo_cells {w:World}{z:Nat}{d:Dd} (h:w.heap[z]?=some (ddo d)):w.cell? ⟨z,0,none⟩=some (.int .i64 d.id)∧w.cell? ⟨z,1,none⟩=some (.int .i64 d.kind)∧w.cell? ⟨z,2,none⟩=some (.int .i64 d.n)∧w.cell? ⟨z,3,none⟩=some (.int .i64 d.shop)∧w.cell? ⟨z,4,none⟩=some (.int .i64 d.mv)∧w.cell? ⟨z,5,none⟩=some (.int .i64 d.sum):=by
 unfold ddo at h
 refine ⟨?_,?_,?_,?_,?_,?_⟩<;>simp [World.cell?,h]
structure Pz (X:World) (l:Lab) (z:Nat) (a:Au.Au) (d:Dd) (t:Po.Tr):Prop where
 ab:X.heap[z]?=some (auo a)
 db:X.heap[z+1]?=some (ddo d)
 tb:X.heap[z+2]?=some (Po.tob t)
 al:l z=0
 dl:l (z +1)=0
 tl:l (z+2)=0
theorem Pz.on {X Y:World}{l l':Lab}{z:Nat}{a:Au.Au}{d:Dd}{t:Po.Tr} (h:Pz X l z a d t) (hs:Stp X l Y l'):Pz Y l' z a d t:=
 ⟨hs.at h.ab h.al,hs.at h.db h.dl,hs.at h.tb h.tl,hs.zero (lt_of_block h.ab) h.al,hs.zero (lt_of_block h.db) h.dl,hs.zero (lt_of_block h.tb) h.tl⟩
theorem Pz.drew {X:World}{l:Lab}{z:Nat}{a:Au.Au}{d:Dd}{t:Po.Tr}(h:Pz X l z a d t):Pz X.drew l z a d t:=⟨h.ab,h.db,h.tb,h.al,h.dl,h.tl⟩
theorem Pz.cells {X:World} {l:Lab} {z:Nat} {a:Au.Au} {d:Dd} {t:Po.Tr}(h:Pz X l z a d t):X.cell? ⟨z,0,none⟩=some (.int .i64 a.card)∧X.cell? ⟨z,1,none⟩=some (.int .i64 a.shop)∧X.cell? ⟨z+1,2,none⟩=some (.int .i64 d.n)∧X.cell? ⟨z+1,4,none⟩=some (.int .i64 d.mv)∧X.cell? ⟨z+1,5,none⟩=some (.int .i64 d.sum)∧
  X.cell? ⟨z+2,0,none⟩=some (.int .i64 t.n)∧X.cell? ⟨z+2,1,none⟩=some (.int .i64 t.k)∧X.cell? ⟨z+2,2,none⟩=some (.int .i64 t.a)∧X.cell? ⟨z+2,3,none⟩=some (.int .i64 t.s):=by
 have A:=auo_cells h.ab
 obtain ⟨-,-,d2,-,d4,d5⟩:=ddo_cells h.db
 obtain ⟨t0,t1,t2,t3⟩:=Po.tob_cells h.tb
 exact ⟨A.c0,A.c1,d2,d4,d5,t0,t1,t2,t3⟩
abbrev PzS (z:Nat) (ca sh n mv sum tn tk ta ts:Int) (X:World):Prop:=X.cell? ⟨z,0,none⟩=some (.int .i64 ca)∧X.cell? ⟨z,1,none⟩=some (.int .i64 sh)∧X.cell? ⟨z+1,2,none⟩=some (.int .i64 n)∧X.cell? ⟨z+1,4,none⟩=some (.int .i64 mv)∧X.cell? ⟨z+1,5,none⟩=some (.int .i64 sum)∧
  X.cell? ⟨z+2,0,none⟩=some (.int .i64 tn)∧X.cell? ⟨z+2,1,none⟩=some (.int .i64 tk)∧X.cell? ⟨z+2,2,none⟩=some (.int .i64 ta)∧X.cell? ⟨z+2,3,none⟩=some (.int .i64 ts)
theorem pz_new (w:World) (lab:Lab) (a:Au.Au) (d:Dd):Pz (((w.alloc (auo a)).alloc (ddo d)).alloc (Po.tob ⟨0,0,d.n,d.sum⟩)) (relab lab w.heap.size 0) w.heap.size a d ⟨0,0,d.n,d.sum⟩:=by
 refine ⟨?_,?_,heap_alloc_at _ _ _ (by simp),relab_new (Nat.le_refl _),relab_new (by omega),relab_new (by omega)⟩
 ·rw[heap_alloc_old _ _ (by simp;omega),heap_alloc_old _ _ (by simp)];exact heap_alloc_at _ _ _ rfl
 ·rw[heap_alloc_old _ _ (by simp)];exact heap_alloc_at _ _ _ (by simp)
theorem Pz.kind {X:World}{l:Lab}{z:Nat}{a:Au.Au}{d:Dd}{t:Po.Tr} (h:Pz X l z a d t) (k:Int):Pz (X.setCell ⟨z+2,1,none⟩ (.int .i64 k)) l z a d ⟨t.n,k,t.a,t.s⟩:=by
 refine ⟨?_,?_,?_,h.al,h.dl,h.tl⟩
 ·rw [heap_setCell_other _ ⟨z+2,1,none⟩ _ _ (by simp)];exact h.ab
 ·rw [heap_setCell_other _ ⟨z+2,1,none⟩ _ _ (by simp)];exact h.db
 ·have hb:=h.tb
  unfold Po.tob at hb⊢
  exact heap_setCell_same _ _ 1 _ _ (.int .i64 k) hb
theorem Hand.new {w X:World}{g base:Nat}{lab:Lab}{b:Bank}{v:Vs}{cs:List CV}{ds:List DV}{tm:Value}(h:Hand w g base lab b v cs ds tm) (hb:Below w.heap.size w X):Goes X g base (relab lab w.heap.size 0) b tm∧Stp w lab X (relab lab w.heap.size 0):=⟨(h.below hb).goes,stp_below hb⟩
theorem gpass (g base:Nat) (lab:Lab) (b:Bank) (tm:Value) (a:Au.Au) (d:Dd) (w:World) (h:Goes w g base lab b tm) (hc:a.card<b.cards.length) (hc0:0≤a.card) (hs:a.shop<b.due.length) (hs0:0≤a.shop) (hc8:a.card<8) (hs8:a.shop<8)
  (f1:-1000000000000≤b.dueOf a.shop) (f2:b.dueOf a.shop≤1000000000000) (m1:1≤d.mv) (m8:d.mv≤8) (n1:1≤d.sum) (n2:d.sum≤1000000):
  Calls Tryz.prog 131 #[.pointer (some ⟨g,0,none⟩),Au.av a,ddv d] w (Done w g base lab tm (passP b a d)):=by
 obtain ⟨v,cs,ds,H⟩:=h.hand
 obtain ⟨c,hcn⟩:∃c:Nat,a.card=c:=⟨a.card.toNat,by omega⟩
 obtain ⟨s,hsn⟩:∃s:Nat,a.shop=s:=⟨a.shop.toNat,by omega⟩
 have P0:=pz_new w lab a d
 have hb0:Below w.heap.size w (((w.alloc (auo a)).alloc (ddo d)).alloc (Po.tob ⟨0,0,d.n,d.sum⟩)):=bel_alloc (bel_alloc (below_alloc _ _) _) _
 have GV:∀(X:World) (l:Lab) (dst:Int),Goes X g base l b tm→Calls Tryz.prog 157 #[.pointer (some ⟨g,0,none⟩),.int .i64 a.card,.int .i64 dst,.int .i64 d.sum] X (Done X g base l tm (cardGivesP b a.card dst d.sum)):=fun X l dst hX=>by
  rw[hcn];exact gcardGives g base l b tm c dst d.sum X hX (by omega) (by omega) (by omega) (by omega)
 have GG:∀(X:World) (l:Lab) (src:Int),Goes X g base l b tm→Calls Tryz.prog 124 #[.pointer (some ⟨g,0,none⟩),.int .i64 a.card,.int .i64 src,.int .i64 d.sum] X (Done X g base l tm (cardGetsP b a.card src d.sum)):=fun X l src hX=>by
  rw[hcn];exact gcardGets g base l b tm c src d.sum X hX (by omega) (by omega)
 have GS:∀(X:World) (l:Lab) (dst:Int),Goes X g base l b tm→Calls Tryz.prog 141 #[.pointer (some ⟨g,0,none⟩),.int .i64 a.shop,.int .i64 dst,.int .i64 d.sum] X (Done X g base l tm (shopGivesP b a.shop dst d.sum)):=fun X l dst hX=>by
  unfold Bank.dueOf at f1 f2
  rw[hsn]at f1 f2⊢
  rw[Int.toNat_natCast]at f1 f2
  exact gshopGives g base l b tm s dst d.sum X hX (by omega) (by omega) (by omega) (by omega) (by omega) (by omega)
 have GP:∀(X:World) (l:Lab) (x:Bank) (i:Bool) (t:Po.Tr),Goes X g base l x tm→Calls Tryz.prog 158 #[.pointer (some ⟨g,0,none⟩),.int .i64 (sideN i),.agg #[.int .i64 t.n,.int .i64 t.k,.int .i64 t.a,.int .i64 t.s]] X (Done X g base l tm (putP x i t)):=fun X l x i t hX=>gput g base l x tm i t X hX
 unfold Done at GV GG GS GP
 have hmv:=eight m1 m8
 clear hc hc0 hs hs0 hc8 hs8 f1 f2 m1 m8 hcn hsn
 obtain ⟨id,kind,n,shop,mv,sum⟩:=d
 dsimp only at n1 n2 hmv GV GG GS
 unfold Au.av ddv
 obtain ⟨z,hz⟩:∃z,Hid (z =w.heap.size):=⟨_,rfl⟩
 dsimp only at P0 hb0
 rcases hmv with rfl|rfl|rfl|rfl|rfl|rfl|rfl|rfl
 -- 1
 ·have hE:Hid (passP b a ⟨id,kind,n,shop,1,sum⟩=(b,0)):=hid (by unfold passP;simp)
  go_enter Tryz.func131,Tryz.ntmps131
  go_upto_region 2 with fail
  unfold auo ddo Po.tob at hb0
  unfold auo ddo Po.tob at P0
  generalize ((w.alloc (.cells #[.int .i64 a.card,.int .i64 a.shop,.int .i64 a.sum,.int .i64 a.cap,.int .i64 a.ref,.int .i64 a.dis,.int .i64 a.till,.bool a.shut] 66)).alloc (.cells #[.int .i64 id,.int .i64 kind,.int .i64 n,.int .i64 shop,.int .i64 1,.int .i64 sum] 74)).alloc (.cells #[.int .i64 0,.int .i64 0,.int .i64 n,.int .i64 sum] 64)=W at*
  have zc:=P0.cells
  dsimp only at zc
  obtain ⟨c0,c1,c2,c3,c4,t0,t1,t2,t3⟩:=zc
  obtain ⟨G0,S0⟩:=H.new hb0
  have tf:=Po.tob_free P0.tb
  obtain ⟨y0,y1,y2,y3⟩:=tf
  rw[←hz.out]at P0 G0 S0 c0 c1 c2 c3 c4 t0 t1 t2 t3 y0 y1 y2 y3⊢
  go_wp2_with fail
  go_ret
  unfold Done
  rw[hE.out]
  exact ⟨rfl,_,G0,S0⟩
 -- 2
 ·have hE:Hid (passP b a ⟨id,kind,n,shop,2,sum⟩=((putP (cardGivesP b a.card 1 sum).1 false ⟨0,1,n,sum⟩).1,orE (cardGivesP b a.card 1 sum).2 (putP (cardGivesP b a.card 1 sum).1 false ⟨0,1,n,sum⟩).2)):=hid (by unfold passP;simp[andE])
  go_enter Tryz.func131,Tryz.ntmps131
  go_upto_region 2 with fail
  unfold auo ddo Po.tob at hb0
  unfold auo ddo Po.tob at P0
  generalize ((w.alloc (.cells #[.int .i64 a.card,.int .i64 a.shop,.int .i64 a.sum,.int .i64 a.cap,.int .i64 a.ref,.int .i64 a.dis,.int .i64 a.till,.bool a.shut] 66)).alloc (.cells #[.int .i64 id,.int .i64 kind,.int .i64 n,.int .i64 shop,.int .i64 2,.int .i64 sum] 74)).alloc (.cells #[.int .i64 0,.int .i64 0,.int .i64 n,.int .i64 sum] 64)=W at*
  have zc:=P0.cells
  dsimp only at zc
  obtain ⟨c0,c1,c2,c3,c4,t0,t1,t2,t3⟩:=zc
  obtain ⟨G0,S0⟩:=H.new hb0
  have tf:=Po.tob_free P0.tb
  obtain ⟨y0,y1,y2,y3⟩:=tf
  rw[←hz.out]at P0 G0 S0 c0 c1 c2 c3 c4 t0 t1 t2 t3 y0 y1 y2 y3⊢
  have P1:=P0.kind 1
  have hb1:Below w.heap.size w (W.setCell ⟨z+2,1,none⟩ (.int .i64 1)):=hb0.setCell (by show w.heap.size≤z+2;have :=hz.out;omega) _
  obtain ⟨G1,S1⟩:=H.new hb1
  rw[←hz.out]at G1 S1
  go_upto_region 6 with fail
  generalize W.setCell ⟨z+2,1,none⟩ (.int .i64 1)=W1 at*
  have P2:=P1.drew
  have G2:=G1.drew
  have S2:=S1.drew
  clear c0 c1 c2 c3 c4 t0 t1 t2 t3 y0 y1 y2 y3 P0 P1 G0 G1 S0 S1 hb0 hb1
  refine wp_region_held_drew (S:=(PzS z a.card a.shop n 2 sum 0 1 n sum)) (by kernel_rfl) (P2.cells) (fun hS=>?_)
  refine tk 0 (.pointer (some ⟨g,0,none⟩)) hS ?_ ?_
  ·intro w' _;go_simp
  refine tk 1 (.pointer (some ⟨z,0,none⟩)) hS ?_ ?_
  ·intro w' _;go_simp
  refine tk 2 (.int .i64 a.card) hS ?_ ?_
  ·intro w' hS';obtain ⟨C0,C1,C2,C3,C4,T0,T1,T2,T3⟩:=hS';go_simp
  refine tk 3 (.pointer (some ⟨z+1,5,none⟩)) hS ?_ ?_
  ·intro w' _;go_simp
  try simp only[Act.put]
  refine tk 4 (.int .i64 sum) hS ?_ ?_
  ·intro w' hS';obtain ⟨C0,C1,C2,C3,C4,T0,T1,T2,T3⟩:=hS';go_simp
  refine tk 6 (.pointer (some ⟨g,0,none⟩)) hS ?_ ?_
  ·intro w' _;go_simp
  refine tk 7 (.agg #[.int .i64 0,.int .i64 1,.int .i64 n,.int .i64 sum]) hS ?_ ?_
  ·intro w' hS';obtain ⟨C0,C1,C2,C3,C4,T0,T1,T2,T3⟩:=hS';go_simp
  try simp only[Act.put]
  refine rd 5 (.cons rfl (fun K hK=>?_) .nil)
  go_simp
  refine (GV _ _ 1 G2).mono ?_
  rintro e w5 ⟨rfl,lab5,hG5,hS5⟩
  have P5:=P2.on hS5
  go_simp
  refine hK.out _ _ (P5.cells) (fun hS=>?_)
  clear hK K
  try simp only[nrm,Act.put]
  refine rd 8 (.cons rfl (fun K hK=>?_) .nil)
  go_simp
  refine (GP _ _ _ false ⟨0,1,n,sum⟩ hG5).mono ?_
  rintro e w6 ⟨rfl,lab6,hG6,hS6⟩
  have P6:=P5.on hS6
  go_simp
  refine hK.out _ _ (P6.cells) (fun hS=>?_)
  clear hK K
  try simp only[nrm,Act.put]
  refine rd 9 (.cons rfl (fun K hK=>?_) .nil)
  go_simp
  refine hK.out _ _ ((P6.on (stp_below (below_alloc _ _))).cells) (fun hS=>?_)
  clear hK K
  try simp only[nrm,Act.put]
  refine rd 10 (.cons rfl (fun K hK=>?_) .nil)
  go_simp
  refine (or_two _ _ _ w6).mono ?_
  rintro e w7 ⟨rfl,rfl⟩
  go_simp
  refine hK.out _ _ ((P6.on (stp_below (below_alloc _ _))).cells) (fun hS=>?_)
  clear hK K
  try simp only[nrm,Act.put]
  refine rd 11 (.cons rfl (fun K hK=>?_) .nil)
  go_simp
  refine hK.out _ _ ((P6.on (stp_below (below_alloc _ _))).cells) (fun hS=>?_)
  clear hK K
  try simp only[nrm,Act.put]
  refine wpAnyH_done (by kernel_rfl) ?_ _
  go_wp2_with fail
  go_ret
  unfold Done
  rw[hE.out]
  exact ⟨rfl,_,hG6.below (below_alloc _ _),((S2.trans hS5).trans hS6).trans (stp_below (below_alloc _ _))⟩
 -- 3
 ·have hE:Hid (passP b a ⟨id,kind,n,shop,3,sum⟩=((putP (cardGivesP b a.card 1 sum).1 false ⟨0,1,n,sum⟩).1,orE (cardGivesP b a.card 1 sum).2 (putP (cardGivesP b a.card 1 sum).1 false ⟨0,1,n,sum⟩).2)):=hid (by unfold passP;simp[andE])
  go_enter Tryz.func131,Tryz.ntmps131
  go_upto_region 2 with fail
  unfold auo ddo Po.tob at hb0
  unfold auo ddo Po.tob at P0
  generalize ((w.alloc (.cells #[.int .i64 a.card,.int .i64 a.shop,.int .i64 a.sum,.int .i64 a.cap,.int .i64 a.ref,.int .i64 a.dis,.int .i64 a.till,.bool a.shut] 66)).alloc (.cells #[.int .i64 id,.int .i64 kind,.int .i64 n,.int .i64 shop,.int .i64 3,.int .i64 sum] 74)).alloc (.cells #[.int .i64 0,.int .i64 0,.int .i64 n,.int .i64 sum] 64)=W at*
  have zc:=P0.cells
  dsimp only at zc
  obtain ⟨c0,c1,c2,c3,c4,t0,t1,t2,t3⟩:=zc
  obtain ⟨G0,S0⟩:=H.new hb0
  have tf:=Po.tob_free P0.tb
  obtain ⟨y0,y1,y2,y3⟩:=tf
  rw[←hz.out]at P0 G0 S0 c0 c1 c2 c3 c4 t0 t1 t2 t3 y0 y1 y2 y3⊢
  have P1:=P0.kind 1
  have hb1:Below w.heap.size w (W.setCell ⟨z+2,1,none⟩ (.int .i64 1)):=hb0.setCell (by show w.heap.size≤z+2;have:= hz.out;omega) _
  obtain ⟨G1,S1⟩:=H.new hb1
  rw[←hz.out]at G1 S1
  go_upto_region 6 with fail
  generalize W.setCell ⟨z+2,1,none⟩ (.int .i64 1)=W1 at*
  have P2:=P1.drew
  have G2:=G1.drew
  have S2:=S1.drew
  clear c0 c1 c2 c3 c4 t0 t1 t2 t3 y0 y1 y2 y3 P0 P1 G0 G1 S0 S1 hb0 hb1
  refine wp_region_held_drew (S:=(PzS z a.card a.shop n 3 sum 0 1 n sum)) (by kernel_rfl) (P2.cells) (fun hS=>?_)
  refine tk 0 (.pointer (some ⟨g,0,none⟩)) hS ?_ ?_
  ·intro w' _;go_simp
  refine tk 1 (.pointer (some ⟨z,0,none⟩)) hS ?_ ?_
  ·intro w' _;go_simp
  refine tk 2 (.int .i64 a.card) hS ?_ ?_
  ·intro w' hS';obtain ⟨C0,C1,C2,C3,C4,T0,T1,T2,T3⟩:=hS';go_simp
  refine tk 3 (.pointer (some ⟨z + 1, 5, none⟩)) hS ?_ ?_
  ·intro w' _; go_simp
  try simp only [Act.put]
  refine tk 4 (.int .i64 sum) hS ?_ ?_
  ·intro w' hS'; obtain ⟨C0, C1, C2, C3, C4, T0, T1, T2, T3⟩ := hS'; go_simp
  refine tk 6 (.pointer (some ⟨g, 0, none⟩)) hS ?_ ?_
  ·intro w' _; go_simp
  refine tk 7 (.agg #[.int .i64 0, .int .i64 1, .int .i64 n, .int .i64 sum]) hS ?_ ?_
  ·intro w' hS'; obtain ⟨C0, C1, C2, C3, C4, T0, T1, T2, T3⟩ := hS'; go_simp
  try simp only [Act.put]
  refine rd 5 (.cons rfl (fun K hK => ?_) .nil)
  go_simp
  refine (GV _ _ 1 G2).mono ?_
  rintro e w5 ⟨rfl, lab5, hG5, hS5⟩
  have P5 := P2.on hS5
  go_simp
  refine hK.out _ _ (P5.cells) (fun hS => ?_)
  clear hK K
  try simp only [nrm, Act.put]
  refine rd 8 (.cons rfl (fun K hK => ?_) .nil)
  go_simp
  refine (GP _ _ _ false ⟨0, 1, n, sum⟩ hG5).mono ?_
  rintro e w6 ⟨rfl, lab6, hG6, hS6⟩
  have P6 := P5.on hS6
  go_simp
  refine hK.out _ _ (P6.cells) (fun hS => ?_)
  clear hK K
  try simp only [nrm, Act.put]
  refine rd 9 (.cons rfl (fun K hK => ?_) .nil)
  go_simp
  refine hK.out _ _ ((P6.on (stp_below (below_alloc _ _))).cells) (fun hS => ?_)
  clear hK K
  try simp only [nrm, Act.put]
  refine rd 10 (.cons rfl (fun K hK => ?_) .nil)
  go_simp
  refine (or_two _ _ _ w6).mono ?_
  rintro e w7 ⟨rfl, rfl⟩
  go_simp
  refine hK.out _ _ ((P6.on (stp_below (below_alloc _ _))).cells) (fun hS => ?_)
  clear hK K
  try simp only [nrm, Act.put]
  refine rd 11 (.cons rfl (fun K hK => ?_) .nil)
  go_simp
  refine hK.out _ _ ((P6.on (stp_below (below_alloc _ _))).cells) (fun hS => ?_)
  clear hK K
  try simp only [nrm, Act.put]
  refine wpAnyH_done (by kernel_rfl) ?_ _
  go_wp2_with fail
  go_ret
  unfold Done
  rw [hE.out]
  exact ⟨rfl, _, hG6.below (below_alloc _ _), ((S2.trans hS5).trans hS6).trans (stp_below (below_alloc _ _))⟩
 -- 4
 ·have hE : Hid (passP b a ⟨id, kind, n, shop, 4, sum⟩ = (b, 0)) := hid (by unfold passP; simp)
  go_enter Tryz.func131, Tryz.ntmps131
  go_upto_region 2 with fail
  unfold auo ddo Po.tob at hb0
  unfold auo ddo Po.tob at P0
  generalize ((w.alloc (.cells #[.int .i64 a.card, .int .i64 a.shop, .int .i64 a.sum, .int .i64 a.cap, .int .i64 a.ref, .int .i64 a.dis, .int .i64 a.till, .bool a.shut] 66)).alloc (.cells #[.int .i64 id, .int .i64 kind, .int .i64 n, .int .i64 shop, .int .i64 4, .int .i64 sum] 74)).alloc (.cells #[.int .i64 0, .int .i64 0, .int .i64 n, .int .i64 sum] 64) = W at *
  have zc := P0.cells
  dsimp only at zc
  obtain ⟨c0, c1, c2, c3, c4, t0, t1, t2, t3⟩ := zc
  obtain ⟨G0, S0⟩ := H.new hb0
  have tf := Po.tob_free P0.tb
  obtain ⟨y0, y1, y2, y3⟩ := tf
  rw [← hz.out] at P0 G0 S0 c0 c1 c2 c3 c4 t0 t1 t2 t3 y0 y1 y2 y3 ⊢
  go_wp2_with fail
  go_ret
  unfold Done
  rw [hE.out]
  exact ⟨rfl, _, G0, S0⟩
 -- 5
 ·have hE : Hid (passP b a ⟨id, kind, n, shop, 5, sum⟩ = ((putP (shopGivesP b a.shop 1 sum).1 true ⟨0, 2, n, sum⟩).1, orE (shopGivesP b a.shop 1 sum).2 (putP (shopGivesP b a.shop 1 sum).1 true ⟨0, 2, n, sum⟩).2)) := hid (by unfold passP; simp [andE])
  go_enter Tryz.func131, Tryz.ntmps131
  go_upto_region 2 with fail
  unfold auo ddo Po.tob at hb0
  unfold auo ddo Po.tob at P0
  generalize ((w.alloc (.cells #[.int .i64 a.card, .int .i64 a.shop, .int .i64 a.sum, .int .i64 a.cap, .int .i64 a.ref, .int .i64 a.dis, .int .i64 a.till, .bool a.shut] 66)).alloc (.cells #[.int .i64 id, .int .i64 kind, .int .i64 n, .int .i64 shop, .int .i64 5, .int .i64 sum] 74)).alloc (.cells #[.int .i64 0, .int .i64 0, .int .i64 n, .int .i64 sum] 64) = W at *
  have zc := P0.cells
  dsimp only at zc
  obtain ⟨c0, c1, c2, c3, c4, t0, t1, t2, t3⟩ := zc
  obtain ⟨G0, S0⟩ := H.new hb0
  have tf := Po.tob_free P0.tb
  obtain ⟨y0, y1, y2, y3⟩ := tf
  rw [← hz.out] at P0 G0 S0 c0 c1 c2 c3 c4 t0 t1 t2 t3 y0 y1 y2 y3 ⊢
  have P1 := P0.kind 2
  have hb1 : Below w.heap.size w (W.setCell ⟨z + 2, 1, none⟩ (.int .i64 2)) := hb0.setCell (by show w.heap.size ≤ z + 2; have := hz.out; omega) _
  obtain ⟨G1, S1⟩ := H.new hb1
  rw [← hz.out] at G1 S1
  go_upto_region 9 with fail
  generalize W.setCell ⟨z + 2, 1, none⟩ (.int .i64 2) = W1 at *
  have P2 := P1.drew
  have G2 := G1.drew
  have S2 := S1.drew
  clear c0 c1 c2 c3 c4 t0 t1 t2 t3 y0 y1 y2 y3 P0 P1 G0 G1 S0 S1 hb0 hb1
  refine wp_region_held_drew (S := (PzS z a.card a.shop n 5 sum 0 2 n sum)) (by kernel_rfl) (P2.cells) (fun hS => ?_)
  refine tk 0 (.pointer (some ⟨g, 0, none⟩)) hS ?_ ?_
  ·intro w' _; go_simp
  refine tk 1 (.pointer (some ⟨z, 1, none⟩)) hS ?_ ?_
  ·intro w' _; go_simp
  refine tk 2 (.int .i64 a.shop) hS ?_ ?_
  ·intro w' hS'; obtain ⟨C0, C1, C2, C3, C4, T0, T1, T2, T3⟩ := hS'; go_simp
  refine tk 3 (.pointer (some ⟨z + 1, 5, none⟩)) hS ?_ ?_
  ·intro w' _; go_simp
  try simp only [Act.put]
  refine tk 4 (.int .i64 sum) hS ?_ ?_
  ·intro w' hS'; obtain ⟨C0, C1, C2, C3, C4, T0, T1, T2, T3⟩ := hS'; go_simp
  refine tk 6 (.pointer (some ⟨g, 0, none⟩)) hS ?_ ?_
  ·intro w' _; go_simp
  refine tk 7 (.agg #[.int .i64 0, .int .i64 2, .int .i64 n, .int .i64 sum]) hS ?_ ?_
  ·intro w' hS'; obtain ⟨C0, C1, C2, C3, C4, T0, T1, T2, T3⟩ := hS'; go_simp
  try simp only [Act.put]
  refine rd 5 (.cons rfl (fun K hK => ?_) .nil)
  go_simp
  refine (GS _ _ 1 G2).mono ?_
  rintro e w5 ⟨rfl, lab5, hG5, hS5⟩
  have P5 := P2.on hS5
  go_simp
  refine hK.out _ _ (P5.cells) (fun hS => ?_)
  clear hK K
  try simp only [nrm, Act.put]
  refine rd 8 (.cons rfl (fun K hK => ?_) .nil)
  go_simp
  refine (GP _ _ _ true ⟨0, 2, n, sum⟩ hG5).mono ?_
  rintro e w6 ⟨rfl, lab6, hG6, hS6⟩
  have P6 := P5.on hS6
  go_simp
  refine hK.out _ _ (P6.cells) (fun hS => ?_)
  clear hK K
  try simp only [nrm, Act.put]
  refine rd 9 (.cons rfl (fun K hK => ?_) .nil)
  go_simp
  refine hK.out _ _ ((P6.on (stp_below (below_alloc _ _))).cells) (fun hS => ?_)
  clear hK K
  try simp only [nrm, Act.put]
  refine rd 10 (.cons rfl (fun K hK => ?_) .nil)
  go_simp
  refine (or_two _ _ _ w6).mono ?_
  rintro e w7 ⟨rfl, rfl⟩
  go_simp
  refine hK.out _ _ ((P6.on (stp_below (below_alloc _ _))).cells) (fun hS => ?_)
  clear hK K
  try simp only [nrm, Act.put]
  refine rd 11 (.cons rfl (fun K hK => ?_) .nil)
  go_simp
  refine hK.out _ _ ((P6.on (stp_below (below_alloc _ _))).cells) (fun hS => ?_)
  clear hK K
  try simp only [nrm, Act.put]
  refine wpAnyH_done (by kernel_rfl) ?_ _
  go_wp2_with fail
  go_ret
  unfold Done
  rw [hE.out]
  exact ⟨rfl, _, hG6.below (below_alloc _ _), ((S2.trans hS5).trans hS6).trans (stp_below (below_alloc _ _))⟩
 -- 6
 ·have hE : Hid (passP b a ⟨id, kind, n, shop, 6, sum⟩ = cardGetsP b a.card 2 sum) := hid (by unfold passP; simp)
  go_enter Tryz.func131, Tryz.ntmps131
  go_upto_region 2 with fail
  unfold auo ddo Po.tob at hb0
  unfold auo ddo Po.tob at P0
  generalize ((w.alloc (.cells #[.int .i64 a.card, .int .i64 a.shop, .int .i64 a.sum, .int .i64 a.cap, .int .i64 a.ref, .int .i64 a.dis, .int .i64 a.till, .bool a.shut] 66)).alloc (.cells #[.int .i64 id, .int .i64 kind, .int .i64 n, .int .i64 shop, .int .i64 6, .int .i64 sum] 74)).alloc (.cells #[.int .i64 0, .int .i64 0, .int .i64 n, .int .i64 sum] 64) = W at *
  have zc := P0.cells
  dsimp only at zc
  obtain ⟨c0, c1, c2, c3, c4, t0, t1, t2, t3⟩ := zc
  obtain ⟨G0, S0⟩ := H.new hb0
  have tf := Po.tob_free P0.tb
  obtain ⟨y0, y1, y2, y3⟩ := tf
  rw [← hz.out] at P0 G0 S0 c0 c1 c2 c3 c4 t0 t1 t2 t3 y0 y1 y2 y3 ⊢
  have GX := GG _ _ 2 G0
  generalize cardGetsP b a.card 2 sum = r at *
  go_wp2_with (go_at_call 124; refine GX.mono ?_; rintro e w5 ⟨rfl, lab5, hG5, hS5⟩)
  go_ret
  unfold Done
  rw [hE.out]
  exact ⟨rfl, _, hG5, S0.trans hS5⟩
 -- 7
 ·have hE : Hid (passP b a ⟨id, kind, n, shop, 7, sum⟩ = putP b false ⟨0, 3, n, sum⟩) := hid (by unfold passP; simp)
  go_enter Tryz.func131, Tryz.ntmps131
  go_upto_region 2 with fail
  unfold auo ddo Po.tob at hb0
  unfold auo ddo Po.tob at P0
  generalize ((w.alloc (.cells #[.int .i64 a.card, .int .i64 a.shop, .int .i64 a.sum, .int .i64 a.cap, .int .i64 a.ref, .int .i64 a.dis, .int .i64 a.till, .bool a.shut] 66)).alloc (.cells #[.int .i64 id, .int .i64 kind, .int .i64 n, .int .i64 shop, .int .i64 7, .int .i64 sum] 74)).alloc (.cells #[.int .i64 0, .int .i64 0, .int .i64 n, .int .i64 sum] 64) = W at *
  have zc := P0.cells
  dsimp only at zc
  obtain ⟨c0, c1, c2, c3, c4, t0, t1, t2, t3⟩ := zc
  obtain ⟨G0, S0⟩ := H.new hb0
  have tf := Po.tob_free P0.tb
  obtain ⟨y0, y1, y2, y3⟩ := tf
  rw [← hz.out] at P0 G0 S0 c0 c1 c2 c3 c4 t0 t1 t2 t3 y0 y1 y2 y3 ⊢
  have P1 := P0.kind 3
  have hb1 : Below w.heap.size w (W.setCell ⟨z + 2, 1, none⟩ (.int .i64 3)) := hb0.setCell (by show w.heap.size ≤ z + 2; have := hz.out; omega) _
  obtain ⟨G1, S1⟩ := H.new hb1
  rw [← hz.out] at G1 S1
  go_upto_region 14 with fail
  generalize W.setCell ⟨z + 2, 1, none⟩ (.int .i64 3) = W1 at *
  have zc := P1.cells
  dsimp only at zc
  obtain ⟨-, -, -, -, -, x0, x1, x2, x3⟩ := zc
  have GX := GP _ _ _ false ⟨0, 3, n, sum⟩ G1
  dsimp only at GX
  have hsn : sideN false = 0 := rfl
  rw [hsn] at GX
  generalize putP b false ⟨0, 3, n, sum⟩ = r at *
  go_wp2_with (go_at_call 158; refine GX.mono ?_; rintro e w5 ⟨rfl, lab5, hG5, hS5⟩)
  go_ret
  unfold Done
  rw [hE.out]
  exact ⟨rfl, _, hG5, S1.trans hS5⟩
 -- 8
 ·have hE : Hid (passP b a ⟨id, kind, n, shop, 8, sum⟩ = cardGivesP b a.card 2 sum) := hid (by unfold passP; simp)
  go_enter Tryz.func131, Tryz.ntmps131
  go_upto_region 2 with fail
  unfold auo ddo Po.tob at hb0
  unfold auo ddo Po.tob at P0
  generalize ((w.alloc (.cells #[.int .i64 a.card, .int .i64 a.shop, .int .i64 a.sum, .int .i64 a.cap, .int .i64 a.ref, .int .i64 a.dis, .int .i64 a.till, .bool a.shut] 66)).alloc (.cells #[.int .i64 id, .int .i64 kind, .int .i64 n, .int .i64 shop, .int .i64 8, .int .i64 sum] 74)).alloc (.cells #[.int .i64 0, .int .i64 0, .int .i64 n, .int .i64 sum] 64) = W at *
  have zc := P0.cells
  dsimp only at zc
  obtain ⟨c0, c1, c2, c3, c4, t0, t1, t2, t3⟩ := zc
  obtain ⟨G0, S0⟩ := H.new hb0
  have tf := Po.tob_free P0.tb
  obtain ⟨y0, y1, y2, y3⟩ := tf
  rw [← hz.out] at P0 G0 S0 c0 c1 c2 c3 c4 t0 t1 t2 t3 y0 y1 y2 y3 ⊢
  have GX := GV _ _ 2 G0
  generalize cardGivesP b a.card 2 sum = r at *
  go_wp2_with (go_at_call 157; refine GX.mono ?_; rintro e w5 ⟨rfl, lab5, hG5, hS5⟩)
  go_ret
  unfold Done
  rw [hE.out]
  exact ⟨rfl, _, hG5, S0.trans hS5⟩
end Go.Proofs.YtofcnebekmjdoaaGreatDoor.Bn
