import Derived.Test.YtofcnebekmjdoaaGreatDoorKbn
set_option maxHeartbeats 4000000
set_option maxRecDepth 100000
namespace Go.Proofs.YtofcnebekmjdoaaGreatDoor.Bn
open Go.RowKit Go.Proofs.YtofcnebekmjdoaaGreatDoor.Gn
structure Ready (K:Nat) (b:Bank):Prop where
 inv:Inv b
 bound:Bound K b
 few:K≤400
 days:b.days.length≤1000000
theorem underAn:∃d,Tryz.prog.underlying 53=some d∧d.isRow=true:=⟨_,Tryz.underlying53,rfl⟩
theorem infoAn:(Tryz.prog.info? 53).map (·.size)=some 2:=by kernel_rfl
theorem loadVar_an {w:World} {g:Nat} {a:An}(h:w.heap[g]?=some (ano a)):(loadVar 53 ⟨g,0,none⟩).run Tryz.prog w=.ok (anv a) w:=by
 obtain ⟨d,h1,h2⟩:=underAn
 exact run_loadVar_mid w g 0 53 [.int .i64 a.1,.int .i64 a.2] d (range_blk (cs:=#[.int .i64 a.1,.int .i64 a.2]) h (fun j v hj=>by simpa using hj)) h1 h2 infoAn
theorem ano_put {w:World} {z:Nat} {x a:An}(h:w.heap[z]?=some (ano x)):((w.setCell ⟨z,0,none⟩ (.int .i64 a.1)).setCell ⟨z,1,none⟩ (.int .i64 a.2)).heap[z]?=some (ano a):=by
 unfold ano at h⊢
 have h0:=heap_setCell_same w z 0 _ _ (.int .i64 a.1) h
 have h1:=heap_setCell_same _ z 1 _ _ (.int .i64 a.2) h0
 rw[h1];simp
theorem okm_of {K:Nat}{b:Bank}(I:Inv b) (B:Bound K b) (hK:K≤400) (d:Dd):Okm b d:=
 ⟨I.held.today.1,fun k hk=>by
   have :=I.held.auths _ (getD_mem' zA hk)
   exact ⟨Au.wrongA_ok.2 ⟨this.1,this.2.1⟩,this.2.2.1,this.2.2.2⟩,I.held.cards8,I.held.due8,fun k hk=>by have :=money_small I B hK k hk;omega,fun k hk=>by have:= due_small I B hK k hk;omega,by have:= I.held.few;omega⟩
theorem do_begin (g base:Nat) (lab:Lab) (b:Bank) (tm:Value) (d:Dd) (w:World) (h:GoesF w g base lab b tm) (O:Oth w) (h0:lab 0=0):
  GoesF (((w.alloc (ddo d)).alloc (.cells #[.int .i64 0,.int .i64 0] 53)).alloc (.cells #[.int .i64 0,.int .i64 0] 53)) g base (relab lab w.heap.size 9) b tm∧Stp w lab (((w.alloc (ddo d)).alloc (.cells #[.int .i64 0,.int .i64 0] 53)).alloc (.cells #[.int .i64 0,.int .i64 0] 53)) (relab lab w.heap.size 9)∧
  Box3 (((w.alloc (ddo d)).alloc (.cells #[.int .i64 0,.int .i64 0] 53)).alloc (.cells #[.int .i64 0,.int .i64 0] 53)) (relab lab w.heap.size 9) w.heap.size d (0,0)∧Oth (((w.alloc (ddo d)).alloc (.cells #[.int .i64 0,.int .i64 0] 53)).alloc (.cells #[.int .i64 0,.int .i64 0] 53))∧relab lab w.heap.size 9 0=0:=by
 have e1:=below_alloc w (ddo d)
 have e2:=below_alloc (w.alloc (ddo d)) (.cells #[.int .i64 0,.int .i64 0] 53)
 have e3:=below_alloc ((w.alloc (ddo d)).alloc (.cells #[.int .i64 0,.int .i64 0] 53)) (.cells #[.int .i64 0,.int .i64 0] 53)
 have hb:=(e1.trans (e2.mono (by simp))).trans (e3.mono (by simp;omega))
 have ho:=only_below (lab:=lab) (j:=9) hb
 refine ⟨h.onj ho (by decide),⟨fun _ hk=>relab_old hk,ho.os,ho.tape,ho.output,ho.size,fun k hk _=>hb.block k hk⟩,⟨?_,⟨(0,0),?_⟩,heap_alloc_at _ _ _ (by simp),relab_new (Nat.le_refl _),relab_new (by omega),relab_new (by omega)⟩,O.keep (hb.block 0 O.lt),by rw[relab_old O.lt];exact h0⟩
 ·exact (e3.block _ (by simp;omega)).trans ((e2.block _ (by simp)).trans (heap_alloc_at _ _ _ rfl))
 ·exact (e3.block _ (by simp)).trans (heap_alloc_at _ _ _ (by simp))
theorem gdo1 {K:Nat}(g base:Nat) (lab:Lab) (b:Bank) (tm:Value) (id n shop mv sum:Int) (w:World) (h:GoesF w g base lab b tm) (Rd:Ready K b) (O:Oth w) (h0:lab 0=0):
  Calls Tryz.prog 78 #[.pointer (some ⟨g,0,none⟩),ddv ⟨id,1,n,shop,mv,sum⟩] w (DoneA w g base lab tm (doB b ⟨id,1,n,shop,mv,sum⟩)):=by
 obtain ⟨I,B,hK,hdays⟩:=Rd
 have C:=fun (X:World) (l:Lab) (hX:GoesF X g base l b tm) (_:Oth X) (_:l 0=0)=>(gload g base l b tm ⟨id,1,n,shop,mv,sum⟩ X hX.goes I.held.cards8).mono fun e w' he=>Done.plan he (load_plan b ⟨id,1,n,shop,mv,sum⟩)
 have hE:Hid (doB b ⟨id,1,n,shop,mv,sum⟩=two (loadB b ⟨id,1,n,shop,mv,sum⟩)):=hid (by rfl)
 rw[hE.out]
 unfold two
 unfold DoneE at C
 generalize loadB b ⟨id,1,n,shop,mv,sum⟩=R at*
 clear hE
 clear I B
 skip
 obtain ⟨G1,S1,B1,O1,h1⟩:=do_begin g base lab b tm ⟨id,1,n,shop,mv,sum⟩ w h O h0
 obtain ⟨d0,d1,d2,d3,d4,d5⟩:=ddo_cells B1.d0
 unfold ddo at G1 S1 B1 O1 d0 d1 d2 d3 d4 d5
 dsimp only at G1 S1 B1 O1 d0 d1 d2 d3 d4 d5
 generalize hWd:((w.alloc (.cells #[.int .i64 id,.int .i64 1,.int .i64 n,.int .i64 shop,.int .i64 mv,.int .i64 sum] 74)).alloc (.cells #[.int .i64 0,.int .i64 0] 53)).alloc (.cells #[.int .i64 0,.int .i64 0] 53)=W at*
 clear h O
 unfold ddv
 dsimp only
 go_enter Tryz.func78,Tryz.ntmps78
 go_wp2_with (go_at_call 96;refine (C _ _ G1 O1 h1).mono ?_;rintro e w5 ⟨rfl,l5,s5,g5⟩;have A5:Aft w lab w5 l5 g base tm (R.1,R.2,(0:Int)) (w.heap.size+2):=⟨S1.trans s5,g5,by omega,(B1.on s5).l2,lt_of_block (B1.on s5).a0⟩;have b5:=B1.on s5;obtain ⟨x5,hx5⟩:=b5.r0;obtain ⟨p0,p1,pf⟩:=ano_cells b5.a0;have pf0:=pf 0;have pf1:=pf 1;obtain ⟨r0,r1,rf⟩:=ano_cells hx5;have rf0:=rf 0;have rf1:=rf 1;have z1:=lt_of_block hx5;have z2:=lt_of_block b5.a0;have m1:=b5.l1;have m2:=b5.l2;clear pf rf b5 g5 s5;replace hx5:=hid hx5)
 have A6:=(A5.set 0 (.int .i64 R.2))
 have A7:=((A6.at (z':=w.heap.size+1) (by omega) (by rw[relab_old z1];exact m1) (by simp;exact z1)).set 0 (.int .i64 R.2)).set 1 (.int .i64 0)
 have hF:=ano_put (w:=(w5.setCell ⟨w.heap.size+2,0,none⟩ (.int .i64 R.2))) (z:=w.heap.size+1) (a:=(R.2,0)) ((heap_setCell_other _ _ _ _ (by simp)).trans hx5.out)
 dsimp only at hF
 generalize ((w5.setCell ⟨w.heap.size+2,0,none⟩ (.int .i64 R.2)).setCell ⟨w.heap.size+1,0,none⟩ (.int .i64 R.2)).setCell ⟨w.heap.size+1,1,none⟩ (.int .i64 0)=Y at*
 have hres:=loadVar_an hF
 clear hF A6
 exact bodyPost_ret (v:=anv (R.2,0)) (results_cell Tryz.results78 rfl hres) rfl ⟨rfl,_,A7.stp,A7.goes⟩
theorem gdo2{K:Nat}(g base:Nat) (lab:Lab) (b:Bank) (tm:Value) (id n shop mv sum:Int) (w:World) (h:GoesF w g base lab b tm) (Rd:Ready K b) (O:Oth w) (h0:lab 0=0):
  Calls Tryz.prog 78 #[.pointer (some ⟨g,0,none⟩),ddv ⟨id,2,n,shop,mv,sum⟩] w (DoneA w g base lab tm (doB b ⟨id,2,n,shop,mv,sum⟩)):=by
 obtain ⟨I,B,hK,hdays⟩:=Rd
 have C:=fun (X :World) (l :Lab) (hX :GoesF X g base l b tm) (_:Oth X) (_ :l 0=0)=>gask g base l b tm ⟨id,2,n,shop,mv,sum⟩ X hX.goes I
 have hE:Hid (doB b ⟨id,2,n,shop,mv,sum⟩=askB b ⟨id,2,n,shop,mv,sum⟩):=hid (by rfl)
 rw[hE.out]
 unfold Done3 at C
 generalize askB b ⟨id,2,n,shop,mv,sum⟩=R at*
 clear hE
 clear I B
 unfold ddv at C
 obtain ⟨G1,S1,B1,O1,h1⟩:=do_begin g base lab b tm ⟨id,2,n,shop,mv,sum⟩ w h O h0
 obtain ⟨d0,d1,d2,d3,d4,d5⟩:=ddo_cells B1.d0
 unfold ddo at G1 S1 B1 O1 d0 d1 d2 d3 d4 d5
 dsimp only at G1 S1 B1 O1 d0 d1 d2 d3 d4 d5
 generalize hWd:((w.alloc (.cells #[.int .i64 id,.int .i64 2,.int .i64 n,.int .i64 shop,.int .i64 mv,.int .i64 sum] 74)).alloc (.cells #[.int .i64 0,.int .i64 0] 53)).alloc (.cells #[.int .i64 0,.int .i64 0] 53)=W at*
 clear h O
 unfold ddv
 dsimp only
 go_enter Tryz.func78,Tryz.ntmps78
 go_wp2_with (go_at_call 97;refine (C _ _ G1 O1 h1).mono ?_;rintro e w5 ⟨rfl,l5,g5,s5⟩;have A5:Aft w lab w5 l5 g base tm R (w.heap.size+2):=⟨S1.trans s5,fun _=>g5,by omega,(B1.on s5).l2,lt_of_block (B1.on s5).a0⟩;have b5:=B1.on s5;obtain ⟨x5,hx5⟩:=b5.r0;obtain ⟨p0,p1,pf⟩:=ano_cells b5.a0;have pf0:=pf 0;have pf1:=pf 1;obtain ⟨r0,r1,rf⟩:=ano_cells hx5;have rf0:=rf 0;have rf1:=rf 1;have z1:=lt_of_block hx5;have z2:=lt_of_block b5.a0;have m1:=b5.l1;have m2:=b5.l2;clear pf rf b5 g5 s5;replace hx5:=hid hx5)
 have A6:=((A5.set 1 (.int .i64 R.2.2)).set 0 (.int .i64 R.2.1))
 have A7:=((A6.at (z':=w.heap.size+1) (by omega) (by rw[relab_old (by simp;exact z1),relab_old z1];exact m1) (by simp;exact z1)).set 0 (.int .i64 R.2.1)).set 1 (.int .i64 R.2.2)
 have hF:=ano_put (w:=((w5.setCell ⟨w.heap.size+2,1,none⟩ (.int .i64 R.2.2)).setCell ⟨w.heap.size+2,0,none⟩ (.int .i64 R.2.1))) (z:=w.heap.size+1) (a:=(R.2.1,R.2.2)) ((heap_setCell_other _ _ _ _ (by simp)).trans ((heap_setCell_other _ _ _ _ (by simp)).trans hx5.out))
 dsimp only at hF
 generalize (((w5.setCell ⟨w.heap.size+2,1,none⟩ (.int .i64 R.2.2)).setCell ⟨w.heap.size+2,0,none⟩ (.int .i64 R.2.1)).setCell ⟨w.heap.size+1,0,none⟩ (.int .i64 R.2.1)).setCell ⟨w.heap.size+1,1,none⟩ (.int .i64 R.2.2)=Y at*
 have hres:=loadVar_an hF
 clear hF A6
 exact bodyPost_ret (v:=anv (R.2.1,R.2.2)) (results_cell Tryz.results78 rfl hres) rfl ⟨rfl,_,A7.stp,A7.goes⟩
theorem gdo3{K:Nat}(g base:Nat) (lab:Lab) (b:Bank) (tm:Value) (id n shop mv sum:Int) (w:World) (h:GoesF w g base lab b tm) (Rd:Ready K b) (O:Oth w) (h0:lab 0=0):
  Calls Tryz.prog 78 #[.pointer (some ⟨g,0,none⟩),ddv ⟨id,3,n,shop,mv,sum⟩] w (DoneA w g base lab tm (doB b ⟨id,3,n,shop,mv,sum⟩)):=by
 obtain ⟨I,B,hK,hdays⟩:=Rd
 have C:=fun (X:World) (l:Lab) (hX:GoesF X g base l b tm) (_:Oth X) (_:l 0=0)=>(gmove g base l b tm ⟨id,3,n,shop,mv,sum⟩ X hX.goes (okm_of I B hK _)).mono fun e w' he=>Done.plan he (move_plan I B hK)
 have hE:Hid (doB b ⟨id,3,n,shop,mv,sum⟩=two (moveD b ⟨id,3,n,shop,mv,sum⟩)):=hid (by rfl)
 rw[hE.out]
 unfold two
 unfold DoneE at C
 generalize moveD b ⟨id,3,n,shop,mv,sum⟩=R at*
 clear hE
 clear I B
 unfold ddv at C
 obtain ⟨G1,S1,B1,O1,h1⟩:=do_begin g base lab b tm ⟨id,3,n,shop,mv,sum⟩ w h O h0
 obtain ⟨d0,d1,d2,d3,d4,d5⟩:=ddo_cells B1.d0
 unfold ddo at G1 S1 B1 O1 d0 d1 d2 d3 d4 d5
 dsimp only at G1 S1 B1 O1 d0 d1 d2 d3 d4 d5
 generalize hWd:((w.alloc (.cells #[.int .i64 id,.int .i64 3,.int .i64 n,.int .i64 shop,.int .i64 mv,.int .i64 sum] 74)).alloc (.cells #[.int .i64 0,.int .i64 0] 53)).alloc (.cells #[.int .i64 0,.int .i64 0] 53)=W at*
 clear h O
 unfold ddv
 dsimp only
 go_enter Tryz.func78,Tryz.ntmps78
 go_wp2_with (go_at_call 98;refine (C _ _ G1 O1 h1).mono ?_;rintro e w5 ⟨rfl,l5,s5,g5⟩;have A5:Aft w lab w5 l5 g base tm (R.1,R.2,(0:Int)) (w.heap.size +2):=⟨S1.trans s5,g5,by omega,(B1.on s5).l2,lt_of_block (B1.on s5).a0⟩;have b5:=B1.on s5;obtain ⟨x5,hx5⟩:=b5.r0;obtain ⟨p0,p1,pf⟩:=ano_cells b5.a0;have pf0:=pf 0;have pf1:=pf 1;obtain ⟨r0,r1,rf⟩:=ano_cells hx5;have rf0:=rf 0;have rf1:=rf 1;have z1:=lt_of_block hx5;have z2:=lt_of_block b5.a0;have m1:=b5.l1;have m2:=b5.l2;clear pf rf b5 g5 s5;replace hx5:=hid hx5)
 have A6:=(A5.set 0 (.int .i64 R.2))
 have A7:=((A6.at (z':=w.heap.size+1) (by omega) (by rw[relab_old z1];exact m1) (by simp;exact z1)).set 0 (.int .i64 R.2)).set 1 (.int .i64 0)
 have hF:=ano_put (w:=(w5.setCell ⟨w.heap.size+2,0,none⟩ (.int .i64 R.2))) (z:=w.heap.size+1) (a:=(R.2,0)) ((heap_setCell_other _ _ _ _ (by simp)).trans hx5.out)
 dsimp only at hF
 generalize ((w5.setCell ⟨w.heap.size+2,0,none⟩ (.int .i64 R.2)).setCell ⟨w.heap.size+1,0,none⟩ (.int .i64 R.2)).setCell ⟨w.heap.size+1,1,none⟩ (.int .i64 0)=Y at*
 have hres:=loadVar_an hF
 clear hF A6
 exact bodyPost_ret (v:=anv (R.2,0)) (results_cell Tryz.results78 rfl hres) rfl ⟨rfl,_,A7.stp,A7.goes⟩
theorem gdo4 {K:Nat}(g base:Nat) (lab:Lab) (b:Bank) (tm:Value) (id n shop mv sum:Int) (w:World) (h:GoesF w g base lab b tm) (Rd:Ready K b) (O:Oth w) (h0:lab 0=0):
  Calls Tryz.prog 78 #[.pointer (some ⟨g,0,none⟩),ddv ⟨id,4,n,shop,mv,sum⟩] w (DoneA w g base lab tm (doB b ⟨id,4,n,shop,mv,sum⟩)):=by
 obtain ⟨I,B,hK,hdays⟩:=Rd
 have C:=fun (X :World) (l :Lab) (hX:GoesF X g base l b tm) (_ :Oth X) (_ :l 0=0)=>(gtick g base l b tm ⟨id,4,n,shop,mv,sum⟩ X hX.goes I).mono fun e w' he=>Done.same he
 have hE:Hid (doB b ⟨id,4,n,shop,mv,sum⟩=two (tickB b ⟨id,4,n,shop,mv,sum⟩)):=hid (by rfl)
 rw[hE.out]
 unfold two
 unfold DoneE at C
 generalize tickB b ⟨id,4,n,shop,mv,sum⟩=R at*
 clear hE
 clear I B
 skip
 obtain ⟨G1,S1,B1,O1,h1⟩:=do_begin g base lab b tm ⟨id,4,n,shop,mv,sum⟩ w h O h0
 obtain ⟨d0,d1,d2,d3,d4,d5⟩:=ddo_cells B1.d0
 unfold ddo at G1 S1 B1 O1 d0 d1 d2 d3 d4 d5
 dsimp only at G1 S1 B1 O1 d0 d1 d2 d3 d4 d5
 generalize hWd:((w.alloc (.cells #[.int .i64 id,.int .i64 4,.int .i64 n,.int .i64 shop,.int .i64 mv,.int .i64 sum] 74)).alloc (.cells #[.int .i64 0,.int .i64 0] 53)).alloc (.cells #[.int .i64 0,.int .i64 0] 53)=W at*
 clear h O
 unfold ddv
 dsimp only
 go_enter Tryz.func78,Tryz.ntmps78
 go_wp2_with (go_at_call 99;refine (C _ _ G1 O1 h1).mono ?_;rintro e w5 ⟨rfl,l5,s5,g5⟩;have A5:Aft w lab w5 l5 g base tm (R.1,R.2,(0 :Int)) (w.heap.size+2):=⟨S1.trans s5,g5,by omega,(B1.on s5).l2,lt_of_block (B1.on s5).a0⟩;have b5:=B1.on s5;obtain ⟨x5,hx5⟩:=b5.r0;obtain ⟨p0,p1,pf⟩:=ano_cells b5.a0;have pf0:=pf 0;have pf1:=pf 1;obtain ⟨r0,r1,rf⟩:=ano_cells hx5;have rf0:=rf 0;have rf1:=rf 1;have z1:=lt_of_block hx5;have z2:=lt_of_block b5.a0;have m1:=b5.l1;have m2:=b5.l2;clear pf rf b5 g5 s5;replace hx5:=hid hx5)
 have A6:=(A5.set 0 (.int .i64 R.2))
 have A7:=((A6.at (z':=w.heap.size+1) (by omega) (by rw[relab_old z1];exact m1) (by simp;exact z1)).set 0 (.int .i64 R.2)).set 1 (.int .i64 0)
 have hF:=ano_put (w:=(w5.setCell ⟨w.heap.size+2,0,none⟩ (.int .i64 R.2))) (z:=w.heap.size+1) (a:=(R.2,0)) ((heap_setCell_other _ _ _ _ (by simp)).trans hx5.out)
 dsimp only at hF
 generalize ((w5.setCell ⟨w.heap.size+2,0,none⟩ (.int .i64 R.2)).setCell ⟨w.heap.size+1,0,none⟩ (.int .i64 R.2)).setCell ⟨w.heap.size+1,1,none⟩ (.int .i64 0)=Y at*
 have hres:=loadVar_an hF
 clear hF A6
 exact bodyPost_ret (v:=anv (R.2,0)) (results_cell Tryz.results78 rfl hres) rfl ⟨rfl,_,A7.stp,A7.goes⟩
theorem gdo5{K:Nat}(g base:Nat) (lab:Lab) (b:Bank) (tm:Value) (id n shop mv sum:Int) (w:World) (h:GoesF w g base lab b tm) (Rd:Ready K b) (O:Oth w) (h0:lab 0=0):
  Calls Tryz.prog 78 #[.pointer (some ⟨g,0,none⟩),ddv ⟨id,5,n,shop,mv,sum⟩] w (DoneA w g base lab tm (doB b ⟨id,5,n,shop,mv,sum⟩)):=by
 obtain ⟨I,B,hK,hdays⟩:=Rd
 have C:=fun (X :World) (l:Lab) (hX:GoesF X g base l b tm) (o :Oth X) (h0:l 0=0)=>gsend g base l b tm ⟨id,5,n,shop,mv,sum⟩ X hX I o h0
 have hE:Hid (doB b ⟨id,5,n,shop,mv,sum⟩=two (sendB b ⟨id,5,n,shop,mv,sum⟩)):=hid (by rfl)
 rw[hE.out]
 unfold two
 unfold DoneE at C
 generalize sendB b ⟨id,5,n,shop,mv,sum⟩=R at*
 clear hE
 clear I B
 skip
 obtain ⟨G1,S1,B1,O1,h1⟩:=do_begin g base lab b tm ⟨id,5,n,shop,mv,sum⟩ w h O h0
 obtain ⟨d0,d1,d2,d3,d4,d5⟩:=ddo_cells B1.d0
 unfold ddo at G1 S1 B1 O1 d0 d1 d2 d3 d4 d5
 dsimp only at G1 S1 B1 O1 d0 d1 d2 d3 d4 d5
 generalize hWd:((w.alloc (.cells #[.int .i64 id,.int .i64 5,.int .i64 n,.int .i64 shop,.int .i64 mv,.int .i64 sum] 74)).alloc (.cells #[.int .i64 0,.int .i64 0] 53)).alloc (.cells #[.int .i64 0,.int .i64 0] 53)=W at*
 clear h O
 unfold ddv
 dsimp only
 go_enter Tryz.func78,Tryz.ntmps78
 go_wp2_with (go_at_call 100;refine (C _ _ G1 O1 h1).mono ?_;rintro e w5 ⟨rfl,l5,s5,g5⟩;have A5:Aft w lab w5 l5 g base tm (R.1,R.2,(0:Int)) (w.heap.size+2):=⟨S1.trans s5,g5,by omega,(B1.on s5).l2,lt_of_block (B1.on s5).a0⟩;have b5:=B1.on s5;obtain ⟨x5,hx5⟩:=b5.r0;obtain ⟨p0,p1,pf⟩:=ano_cells b5.a0;have pf0:=pf 0;have pf1:=pf 1;obtain ⟨r0,r1,rf⟩:=ano_cells hx5;have rf0:=rf 0;have rf1:=rf 1;have z1:=lt_of_block hx5;have z2:=lt_of_block b5.a0;have m1:=b5.l1;have m2:=b5.l2;clear pf rf b5 g5 s5;replace hx5:=hid hx5)
 have A6:=(A5.set 0 (.int .i64 R.2))
 have A7:=((A6.at (z':=w.heap.size+1) (by omega) (by rw[relab_old z1];exact m1) (by simp;exact z1)).set 0 (.int .i64 R.2)).set 1 (.int .i64 0)
 have hF:=ano_put (w:=(w5.setCell ⟨w.heap.size+2,0,none⟩ (.int .i64 R.2))) (z:=w.heap.size+1) (a:=(R.2,0)) ((heap_setCell_other _ _ _ _ (by simp)).trans hx5.out)
 dsimp only at hF
 generalize ((w5.setCell ⟨w.heap.size+2,0,none⟩ (.int .i64 R.2)).setCell ⟨w.heap.size+1,0,none⟩ (.int .i64 R.2)).setCell ⟨w.heap.size+1,1,none⟩ (.int .i64 0)=Y at*
 have hres:=loadVar_an hF
 clear hF A6
 exact bodyPost_ret (v:=anv (R.2,0)) (results_cell Tryz.results78 rfl hres) rfl ⟨rfl,_,A7.stp,A7.goes⟩
theorem gdo6 {K:Nat} (g base:Nat) (lab:Lab) (b:Bank) (tm:Value) (id n shop mv sum:Int) (w:World) (h:GoesF w g base lab b tm) (Rd:Ready K b) (O:Oth w) (h0:lab 0=0):
  Calls Tryz.prog 78 #[.pointer (some ⟨g,0,none⟩),ddv ⟨id,6,n,shop,mv,sum⟩] w (DoneA w g base lab tm (doB b ⟨id,6,n,shop,mv,sum⟩)):=by
 obtain ⟨I,B,hK,hdays⟩:=Rd
 have C:=fun (X :World) (l:Lab) (hX:GoesF X g base l b tm) (_ :Oth X) (_:l 0=0)=>garrive g base l b tm ⟨id,6,n,shop,mv,sum⟩ X hX I B hK
 have hE:Hid (doB b ⟨id,6,n,shop,mv,sum⟩=two (arriveB b ⟨id,6,n,shop,mv,sum⟩ false)):=hid (by rfl)
 rw[hE.out]
 unfold two
 unfold DoneE at C
 generalize arriveB b ⟨id,6,n,shop,mv,sum⟩ false=R at*
 clear hE
 clear I B
 skip
 obtain ⟨G1,S1,B1,O1,h1⟩:=do_begin g base lab b tm ⟨id,6,n,shop,mv,sum⟩ w h O h0
 obtain ⟨d0,d1,d2,d3,d4,d5⟩:=ddo_cells B1.d0
 unfold ddo at G1 S1 B1 O1 d0 d1 d2 d3 d4 d5
 dsimp only at G1 S1 B1 O1 d0 d1 d2 d3 d4 d5
 generalize hWd:((w.alloc (.cells #[.int .i64 id,.int .i64 6,.int .i64 n,.int .i64 shop,.int .i64 mv,.int .i64 sum] 74)).alloc (.cells #[.int .i64 0,.int .i64 0] 53)).alloc (.cells #[.int .i64 0,.int .i64 0] 53)=W at*
 clear h O
 unfold ddv
 dsimp only
 go_enter Tryz.func78,Tryz.ntmps78
 go_wp2_with (go_at_call 101;refine (C _ _ G1 O1 h1).mono ?_;rintro e w5 ⟨rfl,l5,s5,g5⟩;have A5:Aft w lab w5 l5 g base tm (R.1,R.2,(0 :Int)) (w.heap.size +2):=⟨S1.trans s5,g5,by omega,(B1.on s5).l2,lt_of_block (B1.on s5).a0⟩;have b5:=B1.on s5;obtain ⟨x5,hx5⟩:=b5.r0;obtain ⟨p0,p1,pf⟩:=ano_cells b5.a0;have pf0:=pf 0;have pf1:=pf 1;obtain ⟨r0,r1,rf⟩:=ano_cells hx5;have rf0:=rf 0;have rf1:=rf 1;have z1:=lt_of_block hx5;have z2:=lt_of_block b5.a0;have m1:=b5.l1;have m2:=b5.l2;clear pf rf b5 g5 s5;replace hx5:=hid hx5)
 have A6:=(A5.set 0 (.int .i64 R.2))
 have A7:=((A6.at (z':=w.heap.size+1) (by omega) (by rw[relab_old z1];exact m1) (by simp;exact z1)).set 0 (.int .i64 R.2)).set 1 (.int .i64 0)
 have hF:=ano_put (w:=(w5.setCell ⟨w.heap.size+2,0,none⟩ (.int .i64 R.2))) (z:=w.heap.size+1) (a:=(R.2,0)) ((heap_setCell_other _ _ _ _ (by simp)).trans hx5.out)
 dsimp only at hF
 generalize ((w5.setCell ⟨w.heap.size+2,0,none⟩ (.int .i64 R.2)).setCell ⟨w.heap.size+1,0,none⟩ (.int .i64 R.2)).setCell ⟨w.heap.size+1,1,none⟩ (.int .i64 0)=Y at*
 have hres:=loadVar_an hF
 clear hF A6
 exact bodyPost_ret (v:=anv (R.2,0)) (results_cell Tryz.results78 rfl hres) rfl ⟨rfl,_,A7.stp,A7.goes⟩
theorem gdo7 {K:Nat}(g base:Nat) (lab:Lab) (b:Bank) (tm:Value) (id n shop mv sum:Int) (w:World) (h:GoesF w g base lab b tm) (Rd:Ready K b) (O:Oth w) (h0:lab 0=0):
  Calls Tryz.prog 78 #[.pointer (some ⟨g,0,none⟩),ddv ⟨id,7,n,shop,mv,sum⟩] w (DoneA w g base lab tm (doB b ⟨id,7,n,shop,mv,sum⟩)):=by
 obtain ⟨I,B,hK,hdays⟩:=Rd
 have C:=fun (X:World) (l:Lab) (hX :GoesF X g base l b tm) (_:Oth X) (_ :l 0=0)=>gnext g base l b tm ⟨id,7,n,shop,mv,sum⟩ X hX
 have hE:Hid (doB b ⟨id,7,n,shop,mv,sum⟩=two (arriveB b ⟨id,7,n,shop,mv,sum⟩ true)):=hid (by rfl)
 rw[hE.out]
 unfold two
 unfold pkv at C
 generalize arriveB b ⟨id,7,n,shop,mv,sum⟩ true=R at*
 clear hE
 clear I B
 skip
 obtain ⟨G1,S1,B1,O1,h1⟩:=do_begin g base lab b tm ⟨id,7,n,shop,mv,sum⟩ w h O h0
 obtain ⟨d0,d1,d2,d3,d4,d5⟩:=ddo_cells B1.d0
 unfold ddo at G1 S1 B1 O1 d0 d1 d2 d3 d4 d5
 dsimp only at G1 S1 B1 O1 d0 d1 d2 d3 d4 d5
 generalize hWd:((w.alloc (.cells #[.int .i64 id,.int .i64 7,.int .i64 n,.int .i64 shop,.int .i64 mv,.int .i64 sum] 74)).alloc (.cells #[.int .i64 0,.int .i64 0] 53)).alloc (.cells #[.int .i64 0,.int .i64 0] 53)=W at*
 clear h O
 unfold ddv
 dsimp only
 go_enter Tryz.func78,Tryz.ntmps78
 go_wp2_with (go_at_call 102;refine (C _ _ G1 O1 h1).mono ?_;rintro e w5 ⟨pk,rfl,l5,g5,s5⟩;have A5:Aft w lab w5 l5 g base tm (R.1,R.2,(0 :Int)) (w.heap.size +2):=⟨S1.trans s5,fun _=>g5,by omega,(B1.on s5).l2,lt_of_block (B1.on s5).a0⟩;have b5:=B1.on s5;obtain ⟨x5,hx5⟩:=b5.r0;obtain ⟨p0,p1,pf⟩:=ano_cells b5.a0;have pf0:=pf 0;have pf1:=pf 1;obtain ⟨r0,r1,rf⟩:=ano_cells hx5;have rf0:=rf 0;have rf1:=rf 1;have z1:=lt_of_block hx5;have z2:=lt_of_block b5.a0;have m1:=b5.l1;have m2:=b5.l2;clear pf rf b5 g5 s5;replace hx5:=hid hx5)
 have A6:=(A5.set 0 (.int .i64 R.2))
 have A7:=((A6.at (z':=w.heap.size+1) (by omega) (by rw[relab_old z1];exact m1) (by simp;exact z1)).set 0 (.int .i64 R.2)).set 1 (.int .i64 0)
 have hF:=ano_put (w:=(w5.setCell ⟨w.heap.size+2,0,none⟩ (.int .i64 R.2))) (z:=w.heap.size+1) (a:=(R.2,0)) ((heap_setCell_other _ _ _ _ (by simp)).trans hx5.out)
 dsimp only at hF
 generalize ((w5.setCell ⟨w.heap.size+2,0,none⟩ (.int .i64 R.2)).setCell ⟨w.heap.size+1,0,none⟩ (.int .i64 R.2)).setCell ⟨w.heap.size+1,1,none⟩ (.int .i64 0)=Y at*
 have hres:=loadVar_an hF
 clear hF A6
 exact bodyPost_ret (v:=anv (R.2,0)) (results_cell Tryz.results78 rfl hres) rfl ⟨rfl,_,A7.stp,A7.goes⟩
theorem gdo8 {K:Nat}(g base:Nat) (lab:Lab) (b:Bank) (tm:Value) (id n shop mv sum:Int) (w:World) (h:GoesF w g base lab b tm) (Rd:Ready K b) (O:Oth w) (h0:lab 0=0):
  Calls Tryz.prog 78 #[.pointer (some ⟨g,0,none⟩),ddv ⟨id,8,n,shop,mv,sum⟩] w (DoneA w g base lab tm (doB b ⟨id,8,n,shop,mv,sum⟩)):=by
 obtain ⟨I,B,hK,hdays⟩:=Rd
 have C:=fun (X :World) (l:Lab) (hX :GoesF X g base l b tm) (_:Oth X) (_ :l 0=0)=>(gdown g base l b tm X hX.goes).mono fun e w' he=>Done.same he
 have hE:Hid (doB b ⟨id,8,n,shop,mv,sum⟩=two (downB b)):=hid (by rfl)
 rw[hE.out]
 unfold two
 unfold DoneE at C
 generalize downB b=R at*
 clear hE
 clear I B
 skip
 obtain ⟨G1,S1,B1,O1,h1⟩:=do_begin g base lab b tm ⟨id,8,n,shop,mv,sum⟩ w h O h0
 obtain ⟨d0,d1,d2,d3,d4,d5⟩:=ddo_cells B1.d0
 unfold ddo at G1 S1 B1 O1 d0 d1 d2 d3 d4 d5
 dsimp only at G1 S1 B1 O1 d0 d1 d2 d3 d4 d5
 generalize hWd:((w.alloc (.cells #[.int .i64 id,.int .i64 8,.int .i64 n,.int .i64 shop,.int .i64 mv,.int .i64 sum] 74)).alloc (.cells #[.int .i64 0,.int .i64 0] 53)).alloc (.cells #[.int .i64 0,.int .i64 0] 53)=W at*
 clear h O
 unfold ddv
 dsimp only
 go_enter Tryz.func78,Tryz.ntmps78
 go_wp2_with (go_at_call 103;refine (C _ _ G1 O1 h1).mono ?_;rintro e w5 ⟨rfl,l5,s5,g5⟩;have A5:Aft w lab w5 l5 g base tm (R.1,R.2,(0 :Int)) (w.heap.size +2):=⟨S1.trans s5,g5,by omega,(B1.on s5).l2,lt_of_block (B1.on s5).a0⟩;have b5:=B1.on s5;obtain ⟨x5,hx5⟩:=b5.r0;obtain ⟨p0,p1,pf⟩:=ano_cells b5.a0;have pf0:=pf 0;have pf1:=pf 1;obtain ⟨r0,r1,rf⟩:=ano_cells hx5;have rf0:=rf 0;have rf1:=rf 1;have z1:=lt_of_block hx5;have z2:=lt_of_block b5.a0;have m1:=b5.l1;have m2:=b5.l2;clear pf rf b5 g5 s5;replace hx5:=hid hx5)
 have A6:=(A5.set 0 (.int .i64 R.2))
 have A7:=((A6.at (z':=w.heap.size+1) (by omega) (by rw[relab_old z1];exact m1) (by simp;exact z1)).set 0 (.int .i64 R.2)).set 1 (.int .i64 0)
 have hF:=ano_put (w:=(w5.setCell ⟨w.heap.size+2,0,none⟩ (.int .i64 R.2))) (z:=w.heap.size+1) (a:=(R.2,0)) ((heap_setCell_other _ _ _ _ (by simp)).trans hx5.out)
 dsimp only at hF
 generalize ((w5.setCell ⟨w.heap.size+2,0,none⟩ (.int .i64 R.2)).setCell ⟨w.heap.size+1,0,none⟩ (.int .i64 R.2)).setCell ⟨w.heap.size+1,1,none⟩ (.int .i64 0)=Y at*
 have hres:=loadVar_an hF
 clear hF A6
 exact bodyPost_ret (v:=anv (R.2,0)) (results_cell Tryz.results78 rfl hres) rfl ⟨rfl,_,A7.stp,A7.goes⟩
theorem gdo9{K:Nat}(g base:Nat) (lab:Lab) (b:Bank) (tm:Value) (id n shop mv sum:Int) (w:World) (h:GoesF w g base lab b tm) (Rd:Ready K b) (O:Oth w) (h0:lab 0=0):
  Calls Tryz.prog 78 #[.pointer (some ⟨g,0,none⟩),ddv ⟨id,9,n,shop,mv,sum⟩] w (DoneA w g base lab tm (doB b ⟨id,9,n,shop,mv,sum⟩)):=by
 obtain ⟨I,B,hK,hdays⟩:=Rd
 have C:=fun (X :World) (l:Lab) (hX :GoesF X g base l b tm) (_:Oth X) (_ :l 0=0)=>(gup g base l b tm X hX.goes I).mono fun e w' he=>Done.same he
 have hE:Hid (doB b ⟨id,9,n,shop,mv,sum⟩=two (upB b)):=hid (by rfl)
 rw[hE.out]
 unfold two
 unfold DoneE at C
 generalize upB b=R at*
 clear hE
 clear I B
 skip
 obtain ⟨G1,S1,B1,O1,h1⟩:=do_begin g base lab b tm ⟨id,9,n,shop,mv,sum⟩ w h O h0
 obtain ⟨d0,d1,d2,d3,d4,d5⟩:=ddo_cells B1.d0
 unfold ddo at G1 S1 B1 O1 d0 d1 d2 d3 d4 d5
 dsimp only at G1 S1 B1 O1 d0 d1 d2 d3 d4 d5
 generalize hWd:((w.alloc (.cells #[.int .i64 id,.int .i64 9,.int .i64 n,.int .i64 shop,.int .i64 mv,.int .i64 sum] 74)).alloc (.cells #[.int .i64 0,.int .i64 0] 53)).alloc (.cells #[.int .i64 0,.int .i64 0] 53)=W at*
 clear h O
 unfold ddv
 dsimp only
 go_enter Tryz.func78,Tryz.ntmps78
 go_wp2_with (go_at_call 104;refine (C _ _ G1 O1 h1).mono ?_;rintro e w5 ⟨rfl,l5,s5,g5⟩;have A5:Aft w lab w5 l5 g base tm (R.1,R.2,(0 :Int)) (w.heap.size +2):=⟨S1.trans s5,g5,by omega,(B1.on s5).l2,lt_of_block (B1.on s5).a0⟩;have b5:=B1.on s5;obtain ⟨x5,hx5⟩:=b5.r0;obtain ⟨p0,p1,pf⟩:=ano_cells b5.a0;have pf0:=pf 0;have pf1:=pf 1;obtain ⟨r0,r1,rf⟩:=ano_cells hx5;have rf0:=rf 0;have rf1:=rf 1;have z1:=lt_of_block hx5;have z2:=lt_of_block b5.a0;have m1:=b5.l1;have m2:=b5.l2;clear pf rf b5 g5 s5;replace hx5:=hid hx5)
 have A6:=(A5.set 0 (.int .i64 R.2))
 have A7:=((A6.at (z':=w.heap.size+1) (by omega) (by rw[relab_old z1];exact m1) (by simp;exact z1)).set 0 (.int .i64 R.2)).set 1 (.int .i64 0)
 have hF:=ano_put (w:=(w5.setCell ⟨w.heap.size+2,0,none⟩ (.int .i64 R.2))) (z:=w.heap.size+1) (a:=(R.2,0)) ((heap_setCell_other _ _ _ _ (by simp)).trans hx5.out)
 dsimp only at hF
 generalize ((w5.setCell ⟨w.heap.size+2,0,none⟩ (.int .i64 R.2)).setCell ⟨w.heap.size+1,0,none⟩ (.int .i64 R.2)).setCell ⟨w.heap.size+1,1,none⟩ (.int .i64 0)=Y at*
 have hres:=loadVar_an hF
 clear hF A6
 exact bodyPost_ret (v:=anv (R.2,0)) (results_cell Tryz.results78 rfl hres) rfl ⟨rfl,_,A7.stp,A7.goes⟩
theorem gdo10{K:Nat}(g base:Nat) (lab:Lab) (b:Bank) (tm:Value) (id n shop mv sum:Int) (w:World) (h:GoesF w g base lab b tm) (Rd:Ready K b) (O:Oth w) (h0:lab 0=0):
  Calls Tryz.prog 78 #[.pointer (some ⟨g,0,none⟩),ddv ⟨id,10,n,shop,mv,sum⟩] w (DoneA w g base lab tm (doB b ⟨id,10,n,shop,mv,sum⟩)):=by
 obtain ⟨I,B,hK,hdays⟩:=Rd
 have C:=fun (X :World) (l:Lab) (hX :GoesF X g base l b tm) (_:Oth X) (_ :l 0=0)=>(gday g base l b tm X hX.goes I.held.today hdays).mono fun e w' he=>Done.same he
 have hE:Hid (doB b ⟨id,10,n,shop,mv,sum⟩=two (dayB b)):=hid (by rfl)
 rw[hE.out]
 unfold two
 unfold DoneE at C
 generalize dayB b=R at*
 clear hE
 clear I B
 skip
 obtain ⟨G1,S1,B1,O1,h1⟩:=do_begin g base lab b tm ⟨id,10,n,shop,mv,sum⟩ w h O h0
 obtain ⟨d0,d1,d2,d3,d4,d5⟩:=ddo_cells B1.d0
 unfold ddo at G1 S1 B1 O1 d0 d1 d2 d3 d4 d5
 dsimp only at G1 S1 B1 O1 d0 d1 d2 d3 d4 d5
 generalize hWd:((w.alloc (.cells #[.int .i64 id,.int .i64 10,.int .i64 n,.int .i64 shop,.int .i64 mv,.int .i64 sum] 74)).alloc (.cells #[.int .i64 0,.int .i64 0] 53)).alloc (.cells #[.int .i64 0,.int .i64 0] 53)=W at*
 clear h O
 unfold ddv
 dsimp only
 go_enter Tryz.func78,Tryz.ntmps78
 go_wp2_with (go_at_call 105;refine (C _ _ G1 O1 h1).mono ?_;rintro e w5 ⟨rfl,l5,s5,g5⟩;have A5:Aft w lab w5 l5 g base tm (R.1,R.2,(0:Int)) (w.heap.size +2):=⟨S1.trans s5,g5,by omega,(B1.on s5).l2,lt_of_block (B1.on s5).a0⟩;have b5:=B1.on s5;obtain ⟨x5,hx5⟩:=b5.r0;obtain ⟨p0,p1,pf⟩:=ano_cells b5.a0;have pf0:=pf 0;have pf1:=pf 1;obtain ⟨r0,r1,rf⟩:=ano_cells hx5;have rf0:=rf 0;have rf1:=rf 1;have z1:=lt_of_block hx5;have z2:=lt_of_block b5.a0;have m1:=b5.l1;have m2:=b5.l2;clear pf rf b5 g5 s5;replace hx5:=hid hx5)
 have A6:=(A5.set 0 (.int .i64 R.2))
 have A7:=((A6.at (z':=w.heap.size+1) (by omega) (by rw[relab_old z1];exact m1) (by simp;exact z1)).set 0 (.int .i64 R.2)).set 1 (.int .i64 0)
 have hF:=ano_put (w:=(w5.setCell ⟨w.heap.size+2,0,none⟩ (.int .i64 R.2))) (z:=w.heap.size+1) (a:=(R.2,0)) ((heap_setCell_other _ _ _ _ (by simp)).trans hx5.out)
 dsimp only at hF
 generalize ((w5.setCell ⟨w.heap.size+2,0,none⟩ (.int .i64 R.2)).setCell ⟨w.heap.size+1,0,none⟩ (.int .i64 R.2)).setCell ⟨w.heap.size+1,1,none⟩ (.int .i64 0)=Y at*
 have hres:=loadVar_an hF
 clear hF A6
 exact bodyPost_ret (v:=anv (R.2,0)) (results_cell Tryz.results78 rfl hres) rfl ⟨rfl,_,A7.stp,A7.goes⟩
theorem gdo11{K:Nat}(g base:Nat) (lab:Lab) (b:Bank) (tm:Value) (id n shop mv sum:Int) (w:World) (h:GoesF w g base lab b tm) (Rd:Ready K b) (O:Oth w) (h0:lab 0=0):
  Calls Tryz.prog 78 #[.pointer (some ⟨g,0,none⟩),ddv ⟨id,11,n,shop,mv,sum⟩] w (DoneA w g base lab tm (doB b ⟨id,11,n,shop,mv,sum⟩)):=by
 obtain ⟨I,B,hK,hdays⟩:=Rd
 have C:=fun (X:World) (l:Lab) (hX:GoesF X g base l b tm) (_:Oth X) (_ :l 0=0)=>(gpay g base l b tm ⟨id,11,n,shop,mv,sum⟩ X hX.goes I.held.due8 (fun k hk=>by have:= due_small I B hK k hk;omega)).mono fun e w' he=>Done.plan he (pay_plan b ⟨id,11,n,shop,mv,sum⟩)
 have hE:Hid (doB b ⟨id,11,n,shop,mv,sum⟩=two (payB b ⟨id,11,n,shop,mv,sum⟩)):=hid (by rfl)
 rw[hE.out]
 unfold two
 unfold DoneE at C
 generalize payB b ⟨id,11,n,shop,mv,sum⟩=R at*
 clear hE
 clear I B
 skip
 obtain ⟨G1,S1,B1,O1,h1⟩:=do_begin g base lab b tm ⟨id,11,n,shop,mv,sum⟩ w h O h0
 obtain ⟨d0,d1,d2,d3,d4,d5⟩:=ddo_cells B1.d0
 unfold ddo at G1 S1 B1 O1 d0 d1 d2 d3 d4 d5
 dsimp only at G1 S1 B1 O1 d0 d1 d2 d3 d4 d5
 generalize hWd:((w.alloc (.cells #[.int .i64 id,.int .i64 11,.int .i64 n,.int .i64 shop,.int .i64 mv,.int .i64 sum] 74)).alloc (.cells #[.int .i64 0,.int .i64 0] 53)).alloc (.cells #[.int .i64 0,.int .i64 0] 53)=W at*
 clear h O
 unfold ddv
 dsimp only
 go_enter Tryz.func78,Tryz.ntmps78
 go_wp2_with (go_at_call 106;refine (C _ _ G1 O1 h1).mono ?_;rintro e w5 ⟨rfl,l5,s5,g5⟩;have A5:Aft w lab w5 l5 g base tm (R.1,R.2,(0 :Int)) (w.heap.size+2):=⟨S1.trans s5,g5,by omega,(B1.on s5).l2,lt_of_block (B1.on s5).a0⟩;have b5:=B1.on s5;obtain ⟨x5,hx5⟩:=b5.r0;obtain ⟨p0,p1,pf⟩:=ano_cells b5.a0;have pf0:=pf 0;have pf1:=pf 1;obtain ⟨r0,r1,rf⟩:=ano_cells hx5;have rf0:=rf 0;have rf1:=rf 1;have z1:=lt_of_block hx5;have z2:=lt_of_block b5.a0;have m1:=b5.l1;have m2:=b5.l2;clear pf rf b5 g5 s5;replace hx5:=hid hx5)
 have A6:=(A5.set 0 (.int .i64 R.2))
 have A7:=((A6.at (z':=w.heap.size+1) (by omega) (by rw[relab_old z1];exact m1) (by simp;exact z1)).set 0 (.int .i64 R.2)).set 1 (.int .i64 0)
 have hF:=ano_put (w:=(w5.setCell ⟨w.heap.size+2,0,none⟩ (.int .i64 R.2))) (z:=w.heap.size+1) (a:=(R.2,0)) ((heap_setCell_other _ _ _ _ (by simp)).trans hx5.out)
 dsimp only at hF
 generalize ((w5.setCell ⟨w.heap.size+2,0,none⟩ (.int .i64 R.2)).setCell ⟨w.heap.size+1,0,none⟩ (.int .i64 R.2)).setCell ⟨w.heap.size+1,1,none⟩ (.int .i64 0)=Y at*
 have hres:=loadVar_an hF
 clear hF A6
 exact bodyPost_ret (v:=anv (R.2,0)) (results_cell Tryz.results78 rfl hres) rfl ⟨rfl,_,A7.stp,A7.goes⟩
theorem gdo0 (g base:Nat) (lab:Lab) (b:Bank) (tm:Value) (id kind n shop mv sum:Int) (w:World) (h:GoesF w g base lab b tm) (O:Oth w) (h0:lab 0=0) (hk:kind<1∨11<kind):
  Calls Tryz.prog 78 #[.pointer (some ⟨g,0,none⟩),ddv ⟨id,kind,n,shop,mv,sum⟩] w (DoneA w g base lab tm (b,1,0)):=by
 obtain ⟨G1,S1,B1,-,-⟩:=do_begin g base lab b tm ⟨id,kind,n,shop,mv,sum⟩ w h O h0
 obtain ⟨d0,d1,d2,d3,d4,d5⟩:=ddo_cells B1.d0
 unfold ddo at G1 S1 B1 d0 d1 d2 d3 d4 d5
 dsimp only at G1 S1 B1 d0 d1 d2 d3 d4 d5
 generalize hWd:((w.alloc (.cells #[.int .i64 id,.int .i64 kind,.int .i64 n,.int .i64 shop,.int .i64 mv,.int .i64 sum] 74)).alloc (.cells #[.int .i64 0,.int .i64 0] 53)).alloc (.cells #[.int .i64 0,.int .i64 0] 53)=W at*
 have A5:Aft w lab W (relab lab w.heap.size 9) g base tm (b,(1:Int),(0:Int)) (w.heap.size+2):=⟨S1,fun _=>G1.goes,by omega,B1.l2,lt_of_block B1.a0⟩
 obtain ⟨x5,hx5⟩:=B1.r0
 obtain ⟨p0,p1,pf⟩:=ano_cells B1.a0
 have pf0:=pf 0
 obtain ⟨r0,r1,rf⟩:=ano_cells hx5
 have rf0:=rf 0
 have rf1:=rf 1
 have z1:=lt_of_block hx5
 have m1:=B1.l1
 have k1:(kind ==1)=false:=by simp;omega
 have k2:(kind ==2)=false:=by simp;omega
 have k3:(kind ==3)=false:=by simp;omega
 have k4:(kind==4)=false:=by simp;omega
 have k5:(kind==5)=false:=by simp;omega
 have k6:(kind==6)=false:=by simp;omega
 have k7:(kind ==7)=false:=by simp;omega
 have k8:(kind==8)=false:=by simp;omega
 have k9:(kind==9)=false:=by simp;omega
 have k10:(kind ==10)=false:=by simp;omega
 have k11:(kind==11)=false:=by simp;omega
 clear pf rf h O hk G1
 replace hx5:=hid hx5
 unfold ddv
 dsimp only
 go_enter Tryz.func78,Tryz.ntmps78
 go_wp2_with fail
 have A6:=A5.set 0 (.int .i64 1)
 have A7:=((A6.at (z':=w.heap.size+1) (by omega) (by rw[relab_old z1];exact m1) (by simp;exact z1)).set 0 (.int .i64 1)).set 1 (.int .i64 0)
 have hF:=ano_put (w:=W.setCell ⟨w.heap.size+2,0,none⟩ (.int .i64 1)) (z:=w.heap.size+1) (a:=(1,0)) ((heap_setCell_other _ _ _ _ (by simp)).trans hx5.out)
 dsimp only at hF
 generalize ((W.setCell ⟨w.heap.size+2,0,none⟩ (.int .i64 1)).setCell ⟨w.heap.size+1,0,none⟩ (.int .i64 1)).setCell ⟨w.heap.size+1,1,none⟩ (.int .i64 0)=Y at*
 have hres:=loadVar_an hF
 clear hF A6
 exact bodyPost_ret (v:=anv (1,0)) (results_cell Tryz.results78 rfl hres) rfl ⟨rfl,_,A7.stp,A7.goes⟩
theorem gdo{K:Nat}(g base:Nat) (lab:Lab) (b:Bank) (tm:Value) (d:Dd) (w:World) (h:GoesF w g base lab b tm) (Rd:Ready K b) (O:Oth w) (h0:lab 0=0):
  Calls Tryz.prog 78 #[.pointer (some ⟨g,0,none⟩),ddv d] w (DoneA w g base lab tm (doB b d)):=by
 obtain ⟨id,kind,n,shop,mv,sum⟩:=d
 by_cases hk:kind<1∨11<kind
 ·have e:doB b ⟨id,kind,n,shop,mv,sum⟩=(b,1,0):=by
   unfold doB
   dsimp only
   rw[if_neg (by omega),if_neg (by omega),if_neg (by omega),if_neg (by omega),if_neg (by omega),if_neg (by omega),if_neg (by omega),if_neg (by omega),if_neg (by omega),if_neg (by omega),if_neg (by omega)]
  rw[e]
  exact gdo0 g base lab b tm id kind n shop mv sum w h O h0 hk
 ·have: kind=1∨kind=2∨kind=3∨kind=4∨kind=5∨kind=6∨kind=7∨kind=8∨kind=9∨kind=10∨kind=11:=by omega
  rcases this with rfl|rfl|rfl|rfl|rfl|rfl|rfl|rfl|rfl|rfl|rfl
  ·exact gdo1 g base lab b tm id n shop mv sum w h Rd O h0
  ·exact gdo2 g base lab b tm id n shop mv sum w h Rd O h0
  ·exact gdo3 g base lab b tm id n shop mv sum w h Rd O h0
  ·exact gdo4 g base lab b tm id n shop mv sum w h Rd O h0
  ·exact gdo5 g base lab b tm id n shop mv sum w h Rd O h0
  ·exact gdo6 g base lab b tm id n shop mv sum w h Rd O h0
  ·exact gdo7 g base lab b tm id n shop mv sum w h Rd O h0
  ·exact gdo8 g base lab b tm id n shop mv sum w h Rd O h0
  ·exact gdo9 g base lab b tm id n shop mv sum w h Rd O h0
  ·exact gdo10 g base lab b tm id n shop mv sum w h Rd O h0
  ·exact gdo11 g base lab b tm id n shop mv sum w h Rd O h0
end Go.Proofs.YtofcnebekmjdoaaGreatDoor.Bn
