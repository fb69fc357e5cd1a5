import Derived.Test.YtofcnebekmjdoaaGreatDoorKbl
set_option maxHeartbeats 4000000
set_option maxRecDepth 100000
namespace Go.Proofs.YtofcnebekmjdoaaGreatDoor.Bn
open Go.RowKit Go.Proofs.YtofcnebekmjdoaaGreatDoor.Gn
theorem garrive_yes{K:Nat}(g base:Nat)(lab:Lab)(b:Bank)(tm:Value)(d:Dd)(i:Bool)(p:Pk)(r:List Pk)(w:World)(h:GoesF w g base lab b tm)(I:Inv b)(B:Bound K b)(hK:K≤400)(hn:d.n=sideN i)(hr:b.way i=p::r):
  Calls Tryz.prog 101 #[.pointer (some ⟨g,0,none⟩),.int .i64 d.n] w (DoneE w g base lab tm (arriveB b d false)):=by
 cases i with
 |false=>
  have hN:=gnext_yes g base lab b tm false p r w h hr
  have hp:p∈b.way false:=by rw[hr];simp
  have hpl:=arrive_plan I hp
  have hE:arriveB b d false=arriveAt b false p:=by
   unfold arriveB
   rw[if_neg (by rw[hn];decide),hn,show sideOf (sideN false)=false from rfl,hr]
   rfl
  rw[hE,hn]
  clear hE
  have s0:=I.sent.seen0 false
  obtain⟨⟨n,kd,au,sm⟩,sn⟩:=p
  have hB:=fun(X:World)(l :Lab)(hX :Goes X g base l (gone b false) tm)=>gback g base l (gone b false) tm false sn X hX
  have hT:∀X:World,Calls Tryz.prog 136 #[.int .i64 (b.seen false),Po.tv ⟨n,kd,au,sm⟩] X fun e w'=>e=.returned (.tuple #[.int .i64 (Po.took (b.seen false) n),.bool (Po.taken (b.seen false) n)])∧Below X.heap.size X w':=fun X=>Po.take_any _ _ X
  unfold Po.tv at hT
  dsimp only at hT
  have hgl:=(lt_of_block (h.goes.hand.choose_spec.choose_spec.choose_spec).blk)
  unfold DoneP pkv sideN at hN
  unfold sideN at hB⊢
  simp only[Bool.false_eq_true,if_false]at hN hB⊢
  by_cases q1:0≤sn
  ·have hX:Hid (arriveP b false ⟨⟨n,kd,au,sm⟩,sn⟩=backP (gone b false) false sn):=hid (by unfold arriveP backQ backP;rw[if_pos q1])
   rw[hX.out]at hpl
   replace hpl:=hid hpl
   clear hT I B
   unfold Done at hB
   generalize backP (gone b false) false sn=R at*
   go_enter Tryz.func101,Tryz.ntmps101
   go_upto_region 2 with(go_at_call 102;refine hN.mono ?_;rintro e w1⟨rfl,lab1,G1,S1⟩)
   have hb1:=below_alloc w1 (pko ⟨⟨n,kd,au,sm⟩,sn⟩)
   have G2:=G1.below hb1
   have S2:=S1.trans (stp_below hb1)
   have hz:(w1.alloc (pko ⟨⟨n,kd,au,sm⟩,sn⟩)).heap[w1.heap.size]?=some (pko ⟨⟨n,kd,au,sm⟩,sn⟩):=heap_alloc_at _ _ _ rfl
   obtain⟨e0,e1,e2,e3,e4⟩:=pko_cells hz
   unfold pko at G2 S2 e0 e1 e2 e3 e4
   dsimp only at G2 S2 e0 e1 e2 e3 e4
   generalize w1.alloc (.cells #[.int .i64 n,.int .i64 kd,.int .i64 au,.int .i64 sm,.int .i64 sn] 111)=W at*
   clear hb1 hz G1 S1
   go_wp2_with(go_at_call 135;refine(hB _ _ G2).mono ?_;rintro e w5⟨rfl,lab5,G5,S5⟩)
   go_ret
   exact Done.plan (x:=R) ⟨rfl,_,G5,S2.trans S5⟩ hpl.out
  by_cases q2:Po.taken (b.seen false) n=true
  ·have hX:arriveP b false ⟨⟨n,kd,au,sm⟩,sn⟩=takeP (came b false) ⟨n,kd,au,sm⟩:=by unfold arriveP;rw[if_neg q1,if_pos q2]
   obtain⟨y1,y2,y3⟩:=Po.taken_true.1 q2
   have hkp:=next_kept I hp q1 y3
   obtain⟨a0,a1,a2,a3⟩:=kept_auth I hkp
   dsimp only at a0 a1 a2 a3
   obtain⟨k,rfl⟩:∃k:Nat,au=k:=⟨au.toNat,by omega⟩
   have hau:=I.held.auths _ (getD_mem' zA (show k<b.auths.length by omega))
   have O:Okt (came b false) k sm:=⟨by show k<b.auths.length;omega,hau.1.2.2.2.2.1.1,hau.2.2.1,hau.1.2.2.2.2.2.1.1,hau.2.2.2,I.held.cards8,I.held.due8,fun j hj=>due_small I B hK j hj,by omega,a3⟩
   have hTk:=fun(X :World)(l :Lab)(hX:Goes X g base l (came b false) tm)=>gtake g base l (came b false) tm n kd sm k X hX O
   have hsn:(decide (0≤sn))=false:=decide_eq_false q1
   rw[hX]at hpl
   replace hpl:=hid hpl
   rw[q2,Po.took_true q2]at hT
   clear hX hB I B hau O hkp q2 y3 hp
   unfold Done at hTk
   generalize hR:takeP (came b false) ⟨n,kd,(k :Int),sm⟩=R at*
   clear hR
   go_enter Tryz.func101,Tryz.ntmps101
   go_upto_region 6 with(go_at_call 102;refine hN.mono ?_;rintro e w1⟨rfl,lab1,G1,S1⟩)
   have hb1:=below_alloc w1 (.cells #[.int .i64 n,.int .i64 kd,.int .i64 (k:Int),.int .i64 sm,.int .i64 sn] 111)
   have G2:=G1.below hb1
   have S2:=S1.trans (stp_below hb1)
   have hz:(w1.alloc (.cells #[.int .i64 n,.int .i64 kd,.int .i64 (k:Int),.int .i64 sm,.int .i64 sn] 111)).heap[w1.heap.size]? = some (pko ⟨⟨n, kd, (k : Int), sm⟩, sn⟩) := heap_alloc_at _ _ _ rfl
   have zg : w1.heap.size ≠ g := by have := S1.size; omega
   generalize w1.alloc (.cells #[.int .i64 n, .int .i64 kd, .int .i64 (k : Int), .int .i64 sm, .int .i64 sn] 111) = W at *
   generalize relab lab1 w1.heap.size 0 = lab2 at *
   generalize w1.heap.size = z at *
   clear hb1 G1 S1
   obtain ⟨v2, cs2, ds2, H2⟩ := G2
   obtain ⟨-, -, -, -, -, -, -, -, -, c9, -⟩ := blk_cells H2.blk
   have glt := lt_of_block H2.blk
   have zlt := lt_of_block hz
   have keep : ∀ X : World, Below W.heap.size W X → X.cell? ⟨g, 9, none⟩ = some (.int .i64 (b.seen false)) ∧ X.heap[z]? = some (pko ⟨⟨n, kd, (k : Int), sm⟩, sn⟩) := fun X hX => ⟨(hX.cell (p := ⟨g, 9, none⟩) glt).trans c9, (hX.block z zlt).trans hz⟩
   clear c9
   refine wp_region_held_drew (S := (fun X => X.cell? ⟨g, 9, none⟩ = some (.int .i64 (b.seen false)) ∧ X.heap[z]? = some (pko ⟨⟨n, kd, (k : Int), sm⟩, sn⟩))) (by kernel_rfl) (keep _ ((Below.refl _ _).drew)) (fun hS => ?_)
   refine tk 0 (.pointer (some ⟨g, 0, none⟩)) hS ?_ ?_
   ·intro w' _; go_simp
   refine tk 1 (.int .i64 0) hS ?_ ?_
   ·intro w' _; go_simp
   refine tk 2 (.pointer (some ⟨g, 0, none⟩)) hS ?_ ?_
   ·intro w' _; go_simp
   refine tk 3 (.pointer (some ⟨g, 0, none⟩)) hS ?_ ?_
   ·intro w' _; go_simp
   try simp only [Act.put]
   refine tk 4 (.pointer (some ⟨g, 9, none⟩)) hS ?_ ?_
   ·intro w' _; go_simp
   refine tk 5 (.pointer (some ⟨g, 9, none⟩)) hS ?_ ?_
   ·intro w' _; go_simp
   refine tk 6 (.int .i64 (b.seen false)) hS ?_ ?_
   ·intro w' hS'; obtain ⟨Q9, Qz⟩ := hS'; obtain ⟨e0, e1, e2, e3, e4⟩ := pko_cells Qz; dsimp only at e0 e1 e2 e3 e4; go_simp
   refine tk 7 (.pointer (some ⟨z, 0, none⟩)) hS ?_ ?_
   ·intro w' _; go_simp
   try simp only [Act.put]
   refine tk 8 (.agg #[.int .i64 n, .int .i64 kd, .int .i64 (k : Int), .int .i64 sm]) hS ?_ ?_
   ·intro w' hS'; obtain ⟨Q9, Qz⟩ := hS'; obtain ⟨e0, e1, e2, e3, e4⟩ := pko_cells Qz; dsimp only at e0 e1 e2 e3 e4; go_simp
   try simp only [Act.put]
   refine rd 9 (.cons rfl (fun K hK => ?_) .nil)
   go_simp
   refine (hT _).mono ?_
   rintro e wA ⟨rfl, hbA⟩
   have hbA : Below W.heap.size W wA := ((Below.refl _ _).drew).trans hbA
   go_simp
   refine hK.out _ _ (keep _ hbA) (fun hS => ?_)
   clear hK K
   refine tk 10 (.tuple #[.int .i64 (b.seen false + 1), .bool true]) hS ?_ ?_
   ·intro w' _; go_simp
   refine tk 11 (.int .i64 (b.seen false + 1)) hS ?_ ?_
   ·intro w' _; go_simp
   refine tk 12 (.bool true) hS ?_ ?_
   ·intro w' _; go_simp
   try simp only [Act.put]
   refine rd 13 (.cons rfl (fun K hK => ?_) .nil)
   go_simp
   refine hK.out _ _ (keep _ hbA) (fun hS => ?_)
   clear hK K
   try simp only [nrm, Act.put]
   refine rd 14 (.cons rfl (fun K hK => ?_) .nil)
   go_simp
   refine hK.out _ _ (keep _ hbA) (fun hS => ?_)
   clear hK K
   try simp only [nrm, Act.put]
   refine wpAnyH_done (by kernel_rfl) ?_ _
   have H3 := H2.below hbA
   have S3 := S2.trans (stp_below hbA)
   have hzA := (keep _ hbA).2
   obtain ⟨-, -, -, -, -, -, -, -, -, c9, -⟩ := blk_cells H3.blk
   have f9 := blk_free H3.blk 9
   have H4 := H3.put1 (b' := came b false) (H3.mem.plain _ _ _) (i := 9) (x := .int .i64 (b.seen false + 1)) rfl
   have S4 := S3.trans (stp_set (w := wA) H3.lb 9 (.int .i64 (b.seen false + 1)))
   have hz4 : (wA.setCell ⟨g, 9, none⟩ (.int .i64 (b.seen false + 1))).heap[z]? = some (pko ⟨⟨n, kd, (k : Int), sm⟩, sn⟩) := (heap_setCell_other _ _ _ _ zg).trans hzA
   have G4 := H4.goes
   clear H3 S3 hzA hbA H2 S2 hz keep hT H4
   go_upto_region 10 with fail
   clear c9 f9
   generalize wA.setCell ⟨g, 9, none⟩ (.int .i64 (b.seen false + 1)) = Y at *
   obtain ⟨e0, e1, e2, e3, e4⟩ := pko_cells hz4
   dsimp only at e0 e1 e2 e3 e4
   go_wp2_with (go_at_call 137; refine (hTk _ _ G4).mono ?_; rintro e w5 ⟨rfl, lab5, G5, S5⟩)
   go_ret
   exact Done.plan (x := R) ⟨rfl, _, G5, S4.trans S5⟩ hpl.out

  ·have hX : arriveP b false ⟨⟨n, kd, au, sm⟩, sn⟩ = (gone b false, 0) := by unfold arriveP; rw [if_neg q1, if_neg q2]
   have q3 : Po.taken (b.seen false) n = false := by simpa using q2
   have hsn : (decide (0 ≤ sn)) = false := decide_eq_false q1
   rw [hX] at hpl
   replace hpl := hid hpl
   rw [q3, Po.took_false q3] at hT
   clear hX hB I B q2 q3 hp
   go_enter Tryz.func101, Tryz.ntmps101
   go_upto_region 6 with (go_at_call 102; refine hN.mono ?_; rintro e w1 ⟨rfl, lab1, G1, S1⟩)
   have hb1 := below_alloc w1 (.cells #[.int .i64 n, .int .i64 kd, .int .i64 au, .int .i64 sm, .int .i64 sn] 111)
   have G2 := G1.below hb1
   have S2 := S1.trans (stp_below hb1)
   have hz : (w1.alloc (.cells #[.int .i64 n, .int .i64 kd, .int .i64 au, .int .i64 sm, .int .i64 sn] 111)).heap[w1.heap.size]? = some (pko ⟨⟨n, kd, au, sm⟩, sn⟩) := heap_alloc_at _ _ _ rfl
   have zg : w1.heap.size ≠ g := by have := S1.size; omega
   generalize w1.alloc (.cells #[.int .i64 n, .int .i64 kd, .int .i64 au, .int .i64 sm, .int .i64 sn] 111) = W at *
   generalize relab lab1 w1.heap.size 0 = lab2 at *
   generalize w1.heap.size = z at *
   clear hb1 G1 S1
   obtain ⟨v2, cs2, ds2, H2⟩ := G2
   obtain ⟨-, -, -, -, -, -, -, -, -, c9, -⟩ := blk_cells H2.blk
   have glt := lt_of_block H2.blk
   have zlt := lt_of_block hz
   have keep : ∀ X : World, Below W.heap.size W X → X.cell? ⟨g, 9, none⟩ = some (.int .i64 (b.seen false)) ∧ X.heap[z]? = some (pko ⟨⟨n, kd, au, sm⟩, sn⟩) := fun X hX => ⟨(hX.cell (p := ⟨g, 9, none⟩) glt).trans c9, (hX.block z zlt).trans hz⟩
   clear c9
   refine wp_region_held_drew (S := (fun X => X.cell? ⟨g, 9, none⟩ = some (.int .i64 (b.seen false)) ∧ X.heap[z]? = some (pko ⟨⟨n, kd, au, sm⟩, sn⟩))) (by kernel_rfl) (keep _ ((Below.refl _ _).drew)) (fun hS => ?_)
   refine tk 0 (.pointer (some ⟨g, 0, none⟩)) hS ?_ ?_
   ·intro w' _; go_simp
   refine tk 1 (.int .i64 0) hS ?_ ?_
   ·intro w' _; go_simp
   refine tk 2 (.pointer (some ⟨g, 0, none⟩)) hS ?_ ?_
   ·intro w' _; go_simp
   refine tk 3 (.pointer (some ⟨g, 0, none⟩)) hS ?_ ?_
   ·intro w' _; go_simp
   try simp only [Act.put]
   refine tk 4 (.pointer (some ⟨g, 9, none⟩)) hS ?_ ?_
   ·intro w' _; go_simp
   refine tk 5 (.pointer (some ⟨g, 9, none⟩)) hS ?_ ?_
   ·intro w' _; go_simp
   refine tk 6 (.int .i64 (b.seen false)) hS ?_ ?_
   ·intro w' hS'; obtain ⟨Q9, Qz⟩ := hS'; obtain ⟨e0, e1, e2, e3, e4⟩ := pko_cells Qz; dsimp only at e0 e1 e2 e3 e4; go_simp
   refine tk 7 (.pointer (some ⟨z, 0, none⟩)) hS ?_ ?_
   ·intro w' _; go_simp
   try simp only [Act.put]
   refine tk 8 (.agg #[.int .i64 n, .int .i64 kd, .int .i64 au, .int .i64 sm]) hS ?_ ?_
   ·intro w' hS'; obtain ⟨Q9, Qz⟩ := hS'; obtain ⟨e0, e1, e2, e3, e4⟩ := pko_cells Qz; dsimp only at e0 e1 e2 e3 e4; go_simp
   try simp only [Act.put]
   refine rd 9 (.cons rfl (fun K hK => ?_) .nil)
   go_simp
   refine (hT _).mono ?_
   rintro e wA ⟨rfl, hbA⟩
   have hbA : Below W.heap.size W wA := ((Below.refl _ _).drew).trans hbA
   go_simp
   refine hK.out _ _ (keep _ hbA) (fun hS => ?_)
   clear hK K
   refine tk 10 (.tuple #[.int .i64 (b.seen false), .bool false]) hS ?_ ?_
   ·intro w' _; go_simp
   refine tk 11 (.int .i64 (b.seen false)) hS ?_ ?_
   ·intro w' _; go_simp
   refine tk 12 (.bool false) hS ?_ ?_
   ·intro w' _; go_simp
   try simp only [Act.put]
   refine rd 13 (.cons rfl (fun K hK => ?_) .nil)
   go_simp
   refine hK.out _ _ (keep _ hbA) (fun hS => ?_)
   clear hK K
   try simp only [nrm, Act.put]
   refine rd 14 (.cons rfl (fun K hK => ?_) .nil)
   go_simp
   refine hK.out _ _ (keep _ hbA) (fun hS => ?_)
   clear hK K
   try simp only [nrm, Act.put]
   refine wpAnyH_done (by kernel_rfl) ?_ _
   have G3 := (H2.below hbA).goes
   have S3 := S2.trans (stp_below hbA)
   go_wp2_with fail
   go_ret
   exact Done.plan (x := (gone b false, 0)) ⟨rfl, _, G3, S3⟩ hpl.out
 | true =>
  have hN := gnext_yes g base lab b tm true p r w h hr
  have hp : p ∈ b.way true := by rw [hr]; simp
  have hpl := arrive_plan I hp
  have hE : arriveB b d false = arriveAt b true p := by
   unfold arriveB
   rw [if_neg (by rw [hn]; decide), hn, show sideOf (sideN true) = true from rfl, hr]
   rfl
  rw [hE, hn]
  clear hE
  have s0 := I.sent.seen0 true
  obtain ⟨⟨n, kd, au, sm⟩, sn⟩ := p
  have hB := fun (X : World) (l : Lab) (hX : Goes X g base l (gone b true) tm) => gback g base l (gone b true) tm true sn X hX
  have hT : ∀ X : World, Calls Tryz.prog 136 #[.int .i64 (b.seen true), Po.tv ⟨n, kd, au, sm⟩] X fun e w' => e = .returned (.tuple #[.int .i64 (Po.took (b.seen true) n), .bool (Po.taken (b.seen true) n)]) ∧ Below X.heap.size X w' := fun X => Po.take_any _ _ X
  unfold Po.tv at hT
  dsimp only at hT
  have hgl := (lt_of_block (h.goes.hand.choose_spec.choose_spec.choose_spec).blk)
  unfold DoneP pkv sideN at hN
  unfold sideN at hB ⊢
  simp only [if_true] at hN hB ⊢
  by_cases q1 : 0 ≤ sn
  ·have hX : Hid (arriveP b true ⟨⟨n, kd, au, sm⟩, sn⟩ = backP (gone b true) true sn) := hid (by unfold arriveP backQ backP; rw [if_pos q1])
   rw [hX.out] at hpl
   replace hpl := hid hpl
   clear hT I B
   unfold Done at hB
   generalize backP (gone b true) true sn = R at *
   go_enter Tryz.func101, Tryz.ntmps101
   go_upto_region 2 with (go_at_call 102; refine hN.mono ?_; rintro e w1 ⟨rfl, lab1, G1, S1⟩)
   have hb1 := below_alloc w1 (pko ⟨⟨n, kd, au, sm⟩, sn⟩)
   have G2 := G1.below hb1
   have S2 := S1.trans (stp_below hb1)
   have hz : (w1.alloc (pko ⟨⟨n, kd, au, sm⟩, sn⟩)).heap[w1.heap.size]? = some (pko ⟨⟨n, kd, au, sm⟩, sn⟩) := heap_alloc_at _ _ _ rfl
   obtain ⟨e0, e1, e2, e3, e4⟩ := pko_cells hz
   unfold pko at G2 S2 e0 e1 e2 e3 e4
   dsimp only at G2 S2 e0 e1 e2 e3 e4
   generalize w1.alloc (.cells #[.int .i64 n, .int .i64 kd, .int .i64 au, .int .i64 sm, .int .i64 sn] 111) = W at *
   clear hb1 hz G1 S1
   go_wp2_with (go_at_call 135; refine (hB _ _ G2).mono ?_; rintro e w5 ⟨rfl, lab5, G5, S5⟩)
   go_ret
   exact Done.plan (x := R) ⟨rfl, _, G5, S2.trans S5⟩ hpl.out
  by_cases q2 : Po.taken (b.seen true) n = true
  ·have hX : arriveP b true ⟨⟨n, kd, au, sm⟩, sn⟩ = takeP (came b true) ⟨n, kd, au, sm⟩ := by unfold arriveP; rw [if_neg q1, if_pos q2]
   obtain ⟨y1, y2, y3⟩ := Po.taken_true.1 q2
   have hkp := next_kept I hp q1 y3
   obtain ⟨a0, a1, a2, a3⟩ := kept_auth I hkp
   dsimp only at a0 a1 a2 a3
   obtain ⟨k, rfl⟩ : ∃ k : Nat, au = k := ⟨au.toNat, by omega⟩
   have hau := I.held.auths _ (getD_mem' zA (show k < b.auths.length by omega))
   have O : Okt (came b true) k sm := ⟨by show k < b.auths.length; omega, hau.1.2.2.2.2.1.1, hau.2.2.1, hau.1.2.2.2.2.2.1.1, hau.2.2.2, I.held.cards8, I.held.due8, fun j hj => due_small I B hK j hj, by omega, a3⟩
   have hTk := fun (X : World) (l : Lab) (hX : Goes X g base l (came b true) tm) => gtake g base l (came b true) tm n kd sm k X hX O
   have hsn : (decide (0 ≤ sn)) = false := decide_eq_false q1
   rw [hX] at hpl
   replace hpl := hid hpl
   rw [q2, Po.took_true q2] at hT
   clear hX hB I B hau O hkp q2 y3 hp
   unfold Done at hTk
   generalize hR : takeP (came b true) ⟨n, kd, (k : Int), sm⟩ = R at *
   clear hR
   go_enter Tryz.func101, Tryz.ntmps101
   go_upto_region 6 with (go_at_call 102; refine hN.mono ?_; rintro e w1 ⟨rfl, lab1, G1, S1⟩)
   have hb1 := below_alloc w1 (.cells #[.int .i64 n, .int .i64 kd, .int .i64 (k : Int), .int .i64 sm, .int .i64 sn] 111)
   have G2 := G1.below hb1
   have S2 := S1.trans (stp_below hb1)
   have hz : (w1.alloc (.cells #[.int .i64 n, .int .i64 kd, .int .i64 (k : Int), .int .i64 sm, .int .i64 sn] 111)).heap[w1.heap.size]? = some (pko ⟨⟨n, kd, (k : Int), sm⟩, sn⟩) := heap_alloc_at _ _ _ rfl
   have zg : w1.heap.size ≠ g := by have := S1.size; omega
   generalize w1.alloc (.cells #[.int .i64 n, .int .i64 kd, .int .i64 (k : Int), .int .i64 sm, .int .i64 sn] 111) = W at *
   generalize relab lab1 w1.heap.size 0 = lab2 at *
   generalize w1.heap.size = z at *
   clear hb1 G1 S1
   obtain ⟨v2, cs2, ds2, H2⟩ := G2
   obtain ⟨-, -, -, -, -, -, -, -, -, -, c9, -⟩ := blk_cells H2.blk
   have glt := lt_of_block H2.blk
   have zlt := lt_of_block hz
   have keep : ∀ X : World, Below W.heap.size W X → X.cell? ⟨g, 10, none⟩ = some (.int .i64 (b.seen true)) ∧ X.heap[z]? = some (pko ⟨⟨n, kd, (k : Int), sm⟩, sn⟩) := fun X hX => ⟨(hX.cell (p := ⟨g, 10, none⟩) glt).trans c9, (hX.block z zlt).trans hz⟩
   clear c9
   refine wp_region_held_drew (S := (fun X => X.cell? ⟨g, 10, none⟩ = some (.int .i64 (b.seen true)) ∧ X.heap[z]? = some (pko ⟨⟨n, kd, (k : Int), sm⟩, sn⟩))) (by kernel_rfl) (keep _ ((Below.refl _ _).drew)) (fun hS => ?_)
   refine tk 0 (.pointer (some ⟨g, 0, none⟩)) hS ?_ ?_
   ·intro w' _; go_simp
   refine tk 1 (.int .i64 1) hS ?_ ?_
   ·intro w' _; go_simp
   refine tk 2 (.pointer (some ⟨g, 0, none⟩)) hS ?_ ?_
   ·intro w' _; go_simp
   refine tk 3 (.pointer (some ⟨g, 0, none⟩)) hS ?_ ?_
   ·intro w' _; go_simp
   try simp only [Act.put]
   refine tk 4 (.pointer (some ⟨g, 9, none⟩)) hS ?_ ?_
   ·intro w' _; go_simp
   refine tk 5 (.pointer (some ⟨g, 10, none⟩)) hS ?_ ?_
   ·intro w' _; go_simp
   refine tk 6 (.int .i64 (b.seen true)) hS ?_ ?_
   ·intro w' hS'; obtain ⟨Q9, Qz⟩ := hS'; obtain ⟨e0, e1, e2, e3, e4⟩ := pko_cells Qz; dsimp only at e0 e1 e2 e3 e4; go_simp
   refine tk 7 (.pointer (some ⟨z, 0, none⟩)) hS ?_ ?_
   ·intro w' _; go_simp
   try simp only [Act.put]
   refine tk 8 (.agg #[.int .i64 n, .int .i64 kd, .int .i64 (k : Int), .int .i64 sm]) hS ?_ ?_
   ·intro w' hS'; obtain ⟨Q9, Qz⟩ := hS'; obtain ⟨e0, e1, e2, e3, e4⟩ := pko_cells Qz; dsimp only at e0 e1 e2 e3 e4; go_simp
   try simp only [Act.put]
   refine rd 9 (.cons rfl (fun K hK => ?_) .nil)
   go_simp
   refine (hT _).mono ?_
   rintro e wA ⟨rfl, hbA⟩
   have hbA : Below W.heap.size W wA := ((Below.refl _ _).drew).trans hbA
   go_simp
   refine hK.out _ _ (keep _ hbA) (fun hS => ?_)
   clear hK K
   refine tk 10 (.tuple #[.int .i64 (b.seen true + 1), .bool true]) hS ?_ ?_
   ·intro w' _; go_simp
   refine tk 11 (.int .i64 (b.seen true + 1)) hS ?_ ?_
   ·intro w' _; go_simp
   refine tk 12 (.bool true) hS ?_ ?_
   ·intro w' _; go_simp
   try simp only [Act.put]
   refine rd 13 (.cons rfl (fun K hK => ?_) .nil)
   go_simp
   refine hK.out _ _ (keep _ hbA) (fun hS => ?_)
   clear hK K
   try simp only [nrm, Act.put]
   refine rd 14 (.cons rfl (fun K hK => ?_) .nil)
   go_simp
   refine hK.out _ _ (keep _ hbA) (fun hS => ?_)
   clear hK K
   try simp only [nrm, Act.put]
   refine wpAnyH_done (by kernel_rfl) ?_ _
   have H3 := H2.below hbA
   have S3 := S2.trans (stp_below hbA)
   have hzA := (keep _ hbA).2
   obtain ⟨-, -, -, -, -, -, -, -, -, -, c9, -⟩ := blk_cells H3.blk
   have f9 := blk_free H3.blk 10
   have H4 := H3.put1 (b' := came b true) (H3.mem.plain _ _ _) (i := 10) (x := .int .i64 (b.seen true + 1)) rfl
   have S4 := S3.trans (stp_set (w := wA) H3.lb 10 (.int .i64 (b.seen true + 1)))
   have hz4 : (wA.setCell ⟨g, 10, none⟩ (.int .i64 (b.seen true + 1))).heap[z]? = some (pko ⟨⟨n, kd, (k : Int), sm⟩, sn⟩) := (heap_setCell_other _ _ _ _ zg).trans hzA
   have G4 := H4.goes
   clear H3 S3 hzA hbA H2 S2 hz keep hT H4
   go_upto_region 10 with fail
   clear c9 f9
   generalize wA.setCell ⟨g, 10, none⟩ (.int .i64 (b.seen true + 1)) = Y at *
   obtain ⟨e0, e1, e2, e3, e4⟩ := pko_cells hz4
   dsimp only at e0 e1 e2 e3 e4
   go_wp2_with (go_at_call 137; refine (hTk _ _ G4).mono ?_; rintro e w5 ⟨rfl, lab5, G5, S5⟩)
   go_ret
   exact Done.plan (x := R) ⟨rfl, _, G5, S4.trans S5⟩ hpl.out

  ·have hX : arriveP b true ⟨⟨n, kd, au, sm⟩, sn⟩ = (gone b true, 0) := by unfold arriveP; rw [if_neg q1, if_neg q2]
   have q3 : Po.taken (b.seen true) n = false := by simpa using q2
   have hsn : (decide (0 ≤ sn)) = false := decide_eq_false q1
   rw [hX] at hpl
   replace hpl := hid hpl
   rw [q3, Po.took_false q3] at hT
   clear hX hB I B q2 q3 hp
   go_enter Tryz.func101, Tryz.ntmps101
   go_upto_region 6 with (go_at_call 102; refine hN.mono ?_; rintro e w1 ⟨rfl, lab1, G1, S1⟩)
   have hb1 := below_alloc w1 (.cells #[.int .i64 n, .int .i64 kd, .int .i64 au, .int .i64 sm, .int .i64 sn] 111)
   have G2 := G1.below hb1
   have S2 := S1.trans (stp_below hb1)
   have hz : (w1.alloc (.cells #[.int .i64 n, .int .i64 kd, .int .i64 au, .int .i64 sm, .int .i64 sn] 111)).heap[w1.heap.size]? = some (pko ⟨⟨n, kd, au, sm⟩, sn⟩) := heap_alloc_at _ _ _ rfl
   have zg : w1.heap.size ≠ g := by have := S1.size; omega
   generalize w1.alloc (.cells #[.int .i64 n, .int .i64 kd, .int .i64 au, .int .i64 sm, .int .i64 sn] 111) = W at *
   generalize relab lab1 w1.heap.size 0 = lab2 at *
   generalize w1.heap.size = z at *
   clear hb1 G1 S1
   obtain ⟨v2, cs2, ds2, H2⟩ := G2
   obtain ⟨-, -, -, -, -, -, -, -, -, -, c9, -⟩ := blk_cells H2.blk
   have glt := lt_of_block H2.blk
   have zlt := lt_of_block hz
   have keep : ∀ X : World, Below W.heap.size W X → X.cell? ⟨g, 10, none⟩ = some (.int .i64 (b.seen true)) ∧ X.heap[z]? = some (pko ⟨⟨n, kd, au, sm⟩, sn⟩) := fun X hX => ⟨(hX.cell (p := ⟨g, 10, none⟩) glt).trans c9, (hX.block z zlt).trans hz⟩
   clear c9
   refine wp_region_held_drew (S := (fun X => X.cell? ⟨g, 10, none⟩ = some (.int .i64 (b.seen true)) ∧ X.heap[z]? = some (pko ⟨⟨n, kd, au, sm⟩, sn⟩))) (by kernel_rfl) (keep _ ((Below.refl _ _).drew)) (fun hS => ?_)
   refine tk 0 (.pointer (some ⟨g, 0, none⟩)) hS ?_ ?_
   ·intro w' _; go_simp
   refine tk 1 (.int .i64 1) hS ?_ ?_
   ·intro w' _; go_simp
   refine tk 2 (.pointer (some ⟨g, 0, none⟩)) hS ?_ ?_
   ·intro w' _; go_simp
   refine tk 3 (.pointer (some ⟨g, 0, none⟩)) hS ?_ ?_
   ·intro w' _; go_simp
   try simp only [Act.put]
   refine tk 4 (.pointer (some ⟨g, 9, none⟩)) hS ?_ ?_
   ·intro w' _; go_simp
   refine tk 5 (.pointer (some ⟨g, 10, none⟩)) hS ?_ ?_
   ·intro w' _; go_simp
   refine tk 6 (.int .i64 (b.seen true)) hS ?_ ?_
   ·intro w' hS'; obtain ⟨Q9, Qz⟩ := hS'; obtain ⟨e0, e1, e2, e3, e4⟩ := pko_cells Qz; dsimp only at e0 e1 e2 e3 e4; go_simp
   refine tk 7 (.pointer (some ⟨z, 0, none⟩)) hS ?_ ?_
   ·intro w' _; go_simp
   try simp only [Act.put]
   refine tk 8 (.agg #[.int .i64 n, .int .i64 kd, .int .i64 au, .int .i64 sm]) hS ?_ ?_
   ·intro w' hS'; obtain ⟨Q9, Qz⟩ := hS'; obtain ⟨e0, e1, e2, e3, e4⟩ := pko_cells Qz; dsimp only at e0 e1 e2 e3 e4; go_simp
   try simp only [Act.put]
   refine rd 9 (.cons rfl (fun K hK => ?_) .nil)
   go_simp
   refine (hT _).mono ?_
   rintro e wA ⟨rfl, hbA⟩
   have hbA : Below W.heap.size W wA := ((Below.refl _ _).drew).trans hbA
   go_simp
   refine hK.out _ _ (keep _ hbA) (fun hS => ?_)
   clear hK K
   refine tk 10 (.tuple #[.int .i64 (b.seen true), .bool false]) hS ?_ ?_
   ·intro w' _; go_simp
   refine tk 11 (.int .i64 (b.seen true)) hS ?_ ?_
   ·intro w' _; go_simp
   refine tk 12 (.bool false) hS ?_ ?_
   ·intro w' _; go_simp
   try simp only [Act.put]
   refine rd 13 (.cons rfl (fun K hK => ?_) .nil)
   go_simp
   refine hK.out _ _ (keep _ hbA) (fun hS => ?_)
   clear hK K
   try simp only [nrm, Act.put]
   refine rd 14 (.cons rfl (fun K hK => ?_) .nil)
   go_simp
   refine hK.out _ _ (keep _ hbA) (fun hS => ?_)
   clear hK K
   try simp only [nrm, Act.put]
   refine wpAnyH_done (by kernel_rfl) ?_ _
   have G3 := (H2.below hbA).goes
   have S3 := S2.trans (stp_below hbA)
   go_wp2_with fail
   go_ret
   exact Done.plan (x := (gone b true, 0)) ⟨rfl, _, G3, S3⟩ hpl.out
theorem side_of {n:Int}(h:¬(n <0∨1<n)):n=sideN (sideOf n):=by
 have: n=0∨n=1:=by omega
 rcases this with rfl|rfl<;>rfl
theorem gnext (g base:Nat) (lab:Lab) (b:Bank) (tm:Value) (d:Dd) (w:World) (h:GoesF w g base lab b tm):
  Calls Tryz.prog 102 #[.pointer (some ⟨g,0,none⟩),.int .i64 d.n] w fun e w'=>∃p,e=.returned (.tuple #[pkv p,.int .i64 (arriveB b d true).2])∧∃lab',Goes w' g base lab' (arriveB b d true).1 tm∧Stp w lab w' lab':=by
 by_cases q:d.n<0∨1<d.n
 ·have e:arriveB b d true=(b,6):=by unfold arriveB;rw[if_pos q]
  rw[e]
  exact (gnext_far g base lab b tm d.n w h.goes q).mono fun e w' he=>⟨_,he⟩
 ·have hn:=side_of q
  cases hr:b.way (sideOf d.n) with
  |nil=>
   have e:arriveB b d true=(b,6):=by unfold arriveB;rw[if_neg q,hr]
   rw[e,hn]
   exact (gnext_none g base lab b tm (sideOf d.n) w h.goes hr).mono fun e w' he=>⟨_,he⟩
  |cons p r=>
   have e:arriveB b d true=(gone b (sideOf d.n),0):=by unfold arriveB;rw[if_neg q,hr];rfl
   have hy:=gnext_yes g base lab b tm (sideOf d.n) p r w h hr
   rw[←hn] at hy
   rw[e]
   exact hy.mono fun e w' he=>⟨_,he⟩
theorem garrive_no (g base:Nat) (lab:Lab) (b:Bank) (tm:Value) (n:Int) (w:World) (hN:Calls Tryz.prog 102 #[.pointer (some ⟨g,0,none⟩),.int .i64 n] w (DoneP w g base lab tm b ⟨Po.zeroT,0⟩ 6)):
  Calls Tryz.prog 101 #[.pointer (some ⟨g,0,none⟩),.int .i64 n] w (DoneE w g base lab tm (b,6)):=by
 unfold DoneP pkv Po.zeroT at hN
 go_enter Tryz.func101,Tryz.ntmps101
 go_wp2_with (go_at_call 102;refine hN.mono ?_;rintro e w1 ⟨rfl,lab1,G1,S1⟩)
 go_ret
 exact ⟨rfl,_,S1.trans (stp_below (below_alloc _ _)),fun h=>absurd h (by show¬((6:Int)=0);decide)⟩
theorem garrive {K:Nat} (g base:Nat) (lab:Lab) (b:Bank) (tm:Value) (d:Dd) (w:World) (h:GoesF w g base lab b tm) (I:Inv b) (B:Bound K b) (hK:K≤400):
  Calls Tryz.prog 101 #[.pointer (some ⟨g,0,none⟩),.int .i64 d.n] w (DoneE w g base lab tm (arriveB b d false)):=by
 by_cases q:d.n<0∨1<d.n
 ·have e:arriveB b d false=(b,6):=by unfold arriveB;rw[if_pos q]
  rw[e]
  exact garrive_no g base lab b tm d.n w (gnext_far g base lab b tm d.n w h.goes q)
 ·have hn:=side_of q
  cases hr:b.way (sideOf d.n) with
  |nil=>
   have e:arriveB b d false=(b,6):=by unfold arriveB;rw[if_neg q,hr]
   rw[e,hn]
   exact garrive_no g base lab b tm _ w (gnext_none g base lab b tm (sideOf d.n) w h.goes hr)
  |cons p r=>exact garrive_yes g base lab b tm d (sideOf d.n) p r w h I B hK hn hr
structure Oth (w:World):Prop where
 c0:w.cell? ⟨0,0,none⟩=some (.int .i64 1)
 c1:w.cell? ⟨0,1,none⟩=some (.int .i64 0)
theorem cell_lt {w:World} {z p:Nat} {u:Value}(h:w.cell? ⟨z,p,none⟩=some u):z<w.heap.size:=by
 unfold World.cell? at h
 cases hz:w.heap[z]? with
 |none=>rw[hz] at h;cases h
 |some o=>exact lt_of_block hz
theorem Oth.lt {w:World}(h:Oth w):0<w.heap.size:=cell_lt h.c0
theorem Oth.keep {w w':World}(h:Oth w) (hk:w'.heap[0]?=w.heap[0]?):Oth w':=
 ⟨(World.cell?_of_block (a:=⟨0,0,none⟩) hk).trans h.c0,(World.cell?_of_block (a:=⟨0,1,none⟩) hk).trans h.c1⟩
theorem Oth.stp {w w':World}{lab lab':Lab} (h:Oth w) (hs:Stp w lab w' lab') (h0:lab 0=0):Oth w':=h.keep (hs.block 0 h.lt (Or.inl h0))
structure Mid (w0:World) (lab0:Lab) (w:World) (l:Lab) (g base:Nat) (b:Bank) (v:Vs) (cs:List CV) (ds:List DV) (tm:Value) (j:Bool) (va:Value) (L:List Pk):Prop where
 mem:Mem w l base {b with way:=upd b.way j L} {v with wy:=upd v.wy j va} cs ds
 tp:Tp kP 111 l base w va L (wl j)
 blk:w.heap[g]?=some (blkB b v tm)
 lb:l g=1
 stp:Stp w0 lab0 w l
theorem Mid.below {w0:World}{lab0:Lab}{w X:World}{l:Lab}{g base:Nat}{b:Bank}{v:Vs}{cs:List CV}{ds:List DV}{tm:Value}{j:Bool}{va:Value}{L:List Pk}(M:Mid w0 lab0 w l g base b v cs ds tm j va L) (hb:Below w.heap.size w X):Mid w0 lab0 X (relab l w.heap.size 0) g base b v cs ds tm j va L:=
 have hg:=lt_of_block M.blk
 ⟨M.mem.on (only_below hb) (Or.inl rfl),M.tp.move (only_below hb) (Or.inl rfl),(hb.block _ hg).trans M.blk,by rw[relab_old hg];exact M.lb,M.stp.trans (stp_below hb)⟩
theorem Mid.drew {w0:World}{lab0:Lab}{w:World}{l:Lab}{g base:Nat}{b:Bank}{v:Vs}{cs:List CV}{ds:List DV}{tm:Value}{j:Bool}{va:Value}{L:List Pk}(M:Mid w0 lab0 w l g base b v cs ds tm j va L):Mid w0 lab0 w.drew l g base b v cs ds tm j va L:=
 ⟨M.mem.drew,M.tp.stay ((Only.refl l 0 w).drew) (Or.inl rfl),M.blk,M.lb,M.stp.drew⟩
theorem Mid.more {w0:World}{lab0:Lab}{X w2:World}{l:Lab}{g base:Nat}{b:Bank}{v:Vs}{cs:List CV}{ds:List DV}{tm:Value}{j:Bool}{va v2:Value}{L:List Pk}{x:Pk}(M:Mid w0 lab0 X l g base b v cs ds tm j va L)
  (hrow:Row kP 111 w2 base v2 (L ++[x])) (hgrow:X.grownBy w2 va.ownBlock) (hat:∀k,v2.ownBlock=some k→va.ownBlock=some k∨X.heap.size≤k) (hon:[x]≠[]→w2.ownsRow base 111 kP.size v2 (L ++[x]).length (kP.flat (L ++[x]))):
  Mid w0 lab0 w2 (relab l X.heap.size (wl j)) g base b v cs ds tm j v2 (L++[x]):=by
 have ho:Only l (wl j) X w2:=only_grown hgrow (fun k hk=>M.tp.lab k hk) (by cases j<;>decide)
 have tp2:=M.tp.grow hrow (fun _=>hon (by simp)) hat
 have hg:=lt_of_block M.blk
 have m2:=M.mem.wayTo j ho tp2.ap
 refine ⟨?_,tp2,(ho.block g hg (Or.inr (by rw[M.lb];cases j<;>decide))).trans M.blk,by rw[relab_old hg];exact M.lb,M.stp.trans (stp_only ho (wl_le j))⟩
 have e1:upd (upd b.way j L) j (L ++[x])=upd b.way j (L ++[x]):=upd_upd _ _ _ _
 have e2:upd (upd v.wy j va) j v2=upd v.wy j v2:=upd_upd _ _ _ _
 dsimp only at m2
 rw[e1,e2] at m2
 exact m2
theorem Mid.put {w0:World} {lab0:Lab} {w:World} {l:Lab} {g base:Nat} {b:Bank} {v:Vs} {cs:List CV} {ds:List DV} {tm:Value} {j:Bool} {va:Value} {L:List Pk}(M:Mid w0 lab0 w l g base b v cs ds tm j va L){i:Nat}(hc:(cellsB b v tm).setIfInBounds i va=cellsB {b with way:=upd b.way j L} {v with wy:=upd v.wy j va} tm):
  Goes (w.setCell ⟨g,i,none⟩ va) g base (relab l w.heap.size 1) {b with way:=upd b.way j L} tm∧Stp w0 lab0 (w.setCell ⟨g,i,none⟩ va) (relab l w.heap.size 1):=by
 refine ⟨⟨_,cs,ds,M.mem.gput M.lb i va,?_,by rw[relab_old (lt_of_block M.blk)];exact M.lb⟩,M.stp.trans (stp_set M.lb i va)⟩
 rw[blk_put M.blk,hc]
 rfl
def sentK (b:Bank) (i:Bool) (k:Nat):List Pk:=b.way (!i)++((b.snd i).kept.take k).map (fun t=>(⟨t,-1⟩:Pk))
theorem sentK_zero (b:Bank) (i:Bool):sentK b i 0=b.way (!i):=by unfold sentK;simp
theorem sentK_next {b:Bank} {i:Bool} {k:Nat}(hk:k<(b.snd i).kept.length):sentK b i k++[⟨(b.snd i).kept.getD k Po.zeroT,-1⟩]=sentK b i (k+1):=by
 unfold sentK
 rw[take_one _ _ Po.zeroT hk,List.map_append,List.append_assoc]
 rfl
theorem sentK_len (b:Bank) (i:Bool) (k:Nat):(sentK b i k).length≤(b.way (!i)).length+(b.snd i).kept.length:=by unfold sentK;simp;omega
theorem sentK_end (b:Bank) (i:Bool):sentK b i (b.snd i).kept.length++[⟨Po.zeroT,b.seen i⟩]=sent b i:=by unfold sentK sent;simp
end Go.Proofs.YtofcnebekmjdoaaGreatDoor.Bn
