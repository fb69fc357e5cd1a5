import Derived.Test.YtofcnebekmjdoaaGreatDoorKbk
set_option maxHeartbeats 4000000
set_option maxRecDepth 100000
namespace Go.Proofs.YtofcnebekmjdoaaGreatDoor.Bn
open Go.RowKit Go.Proofs.YtofcnebekmjdoaaGreatDoor.Gn
def kPa:Kind Pa where
 cells:=fun p=>[.int .i64 p.t,.int .i64 p.c,.int .i64 p.s]
 size:=3
 len:=fun _=>rfl
 one:=fun x u hu=>by simp at hu;rcases hu with rfl|rfl|rfl<;>rfl
 pos:=by decide
def suv (vp:Value) (shops cap:Int):Value:=.agg #[vp,.int .i64 shops,.int .i64 cap]
def suo (vp:Value) (shops cap:Int):Obj:=.cells #[vp,.int .i64 shops,.int .i64 cap] 24
def zPa:Pa:=⟨0,0,0⟩
def badGo (i:Nat):List Pa→Int×Int
 |[]=>(0,0)
 |p::r=>if wrongP p≠0 then (wrongP p,i) else badGo (i +1) r
def setErr (ps:List Pa) (shops cap:Int):Int×Int:=
 if 8<ps.length∨shops<0∨8<shops then (5,0) else if cap<0∨1000000<cap then (3,0) else badGo 0 ps
theorem drop_pa {ps:List Pa} {k:Nat}(hk:k<ps.length):ps.drop k=ps.getD k zPa::ps.drop (k+1):=by
 rw[List.drop_eq_getElem_cons hk];simp[List.getD,hk]
theorem bad_hit {ps:List Pa} {k:Nat}(hk:k<ps.length) (h:wrongP (ps.getD k zPa)≠0):badGo k (ps.drop k)=(wrongP (ps.getD k zPa),(k:Int)):=by
 rw[drop_pa hk,badGo,if_pos h]
theorem bad_miss {ps:List Pa} {k:Nat} (hk:k<ps.length) (h:wrongP (ps.getD k zPa)=0):badGo k (ps.drop k)=badGo (k +1) (ps.drop (k +1)):=by
 rw[drop_pa hk,badGo,if_neg (by simpa using h)]
theorem bad_ok {i:Nat} {ps:List Pa}(h:(badGo i ps).1=0):∀p∈ps,wrongP p=0:=by
 induction ps generalizing i with
 |nil=>intro p hp;cases hp
 |cons q r ih=>
  rw[badGo] at h
  by_cases e:wrongP q=0
  ·rw[if_neg (by simpa using e)] at h
   intro p hp
   rcases List.mem_cons.1 hp with rfl|hp
   ·exact e
   ·exact ih h p hp
  ·rw[if_pos e] at h
   exact absurd h e
theorem set_ok {ps:List Pa}{shops cap:Int}(h:(setErr ps shops cap).1=0):ps.length≤8∧0≤shops∧shops≤8∧0≤cap∧cap≤1000000∧∀p∈ps,wrongP p=0:=by
 unfold setErr at h
 by_cases q1:8<ps.length∨shops<0∨8<shops
 ·rw[if_pos q1] at h;cases h
 rw[if_neg q1] at h
 by_cases q2:cap<0∨1000000<cap
 ·rw[if_pos q2] at h;cases h
 rw[if_neg q2] at h
 exact ⟨by omega,by omega,by omega,by omega,by omega,bad_ok h⟩
theorem sul_cells {w:World} {z:Nat} {vp:Value} {shops cap:Int}(h:w.heap[z]?=some (suo vp shops cap)):w.cell? ⟨z,0,none⟩=some vp∧w.cell? ⟨z,1,none⟩=some (.int .i64 shops)∧w.cell? ⟨z,2,none⟩=some (.int .i64 cap):=by
 unfold suo at h
 refine ⟨?_,?_,?_⟩<;>simp[World.cell?,h]
def fo (f:Int×Int):Obj:=.cells #[.int .i64 f.1,.int .i64 f.2] 47
theorem underF:∃d,Tryz.prog.underlying 47=some d∧d.isRow=true:=⟨_,Tryz.underlying47,rfl⟩
theorem infoF:(Tryz.prog.info? 47).map (·.size)=some 2:=by kernel_rfl
theorem loadVar_f {w:World} {g:Nat} {a:Int×Int} (h:w.heap[g]?=some (fo a)):(loadVar 47 ⟨g,0,none⟩).run Tryz.prog w=.ok (Dy.fv a) w:=by
 obtain ⟨d,h1,h2⟩:=underF
 exact run_loadVar_mid w g 0 47 [.int .i64 a.1,.int .i64 a.2] d (range_blk (cs:=#[.int .i64 a.1,.int .i64 a.2]) h (fun j v hj=>by simpa using hj)) h1 h2 infoF
theorem fo_put {w:World} {z:Nat} {x a:Int×Int} (h:w.heap[z]?=some (fo x)):((w.setCell ⟨z,0,none⟩ (.int .i64 a.1)).setCell ⟨z,1,none⟩ (.int .i64 a.2)).heap[z]?=some (fo a):=by
 unfold fo at h⊢
 have h0:=heap_setCell_same w z 0 _ _ (.int .i64 a.1) h
 have h1:=heap_setCell_same _ z 1 _ _ (.int .i64 a.2) h0
 rw[h1];simp
theorem fo_cells{w:World}{z:Nat}{a:Int×Int}(h:w.heap[z]?=some (fo a)):w.cell? ⟨z,0,none⟩=some (.int .i64 a.1)∧w.cell? ⟨z,1,none⟩=some (.int .i64 a.2)∧w.frozen? ⟨z,0,none⟩=false∧w.frozen? ⟨z,1,none⟩=false:=by
 unfold fo at h
 refine ⟨?_,?_,?_,?_⟩
 ·simp[World.cell?,h]
 ·simp[World.cell?,h]
 ·simp[World.frozen?,h]
 ·simp[World.frozen?,h]
theorem swrong_any (ps:List Pa) (a:Option Addr) (c:Nat) (shops cap:Int) (w:World) (hl:Gn.Lies kPa w a c ps):
  Calls Tryz.prog 20 #[suv (.slice a ps.length c) shops cap] w fun e w'=>e=.returned (Dy.fv (setErr ps shops cap))∧Below w.heap.size w w':=by
 have e1:=below_alloc w (suo (.slice a ps.length c) shops cap)
 have e2:=below_alloc (w.alloc (suo (.slice a ps.length c) shops cap)) (fo (0,0))
 have hb:=e1.trans (e2.mono (by simp))
 have hs0:((w.alloc (suo (.slice a ps.length c) shops cap)).alloc (fo (0,0))).heap[w.heap.size]?=some (suo (.slice a ps.length c) shops cap):=(e2.block _ (by simp)).trans (heap_alloc_at _ _ _ rfl)
 have hf0:((w.alloc (suo (.slice a ps.length c) shops cap)).alloc (fo (0,0))).heap[w.heap.size+1]?=some (fo (0,0)):=heap_alloc_at _ _ _ (by simp)
 have hl1:=hl.below (hb.mono (Nat.le_refl _))
 have hmx:=hl.len
 unfold maxLen at hmx
 obtain ⟨W,hW⟩:∃W,(w.alloc (suo (.slice a ps.length c) shops cap)).alloc (fo (0,0))=W:=⟨_,rfl⟩
 rw[hW] at hb hs0 hf0 hl1
 unfold suo fo at hW
 dsimp only at hW
 obtain ⟨s0,s1,s2⟩:=sul_cells hs0
 obtain ⟨f0,f1,f2,f3⟩:=fo_cells hf0
 dsimp only at f0 f1
 have zl:=lt_of_block hf0
 clear e1 e2 hl
 have ret:∀(X:World) (f:Int×Int),X.heap[w.heap.size+1]?=some (fo (0,0))→Below w.heap.size w X→∃Y,(X.setCell ⟨w.heap.size+1,0,none⟩ (.int .i64 f.1)).setCell ⟨w.heap.size+1,1,none⟩ (.int .i64 f.2)=Y∧(loadVar 47 ⟨w.heap.size+1,0,none⟩).run Tryz.prog Y=.ok (Dy.fv f) Y∧Below w.heap.size w Y:=fun X f hX hbX=>
  ⟨_,rfl,loadVar_f (fo_put hX),(hbX.setCell (p:=⟨w.heap.size+1,0,none⟩) (by simp) _).setCell (p:=⟨w.heap.size+1,1,none⟩) (by simp) _⟩
 unfold suv
 by_cases q1:8<ps.length∨shops<0∨8<shops
 ·have hE:setErr ps shops cap=(5,0):=by unfold setErr;rw[if_pos q1]
  rw[hE]
  obtain ⟨Y,hY,hres,hbY⟩:=ret W (5,0) hf0 hb
  dsimp only at hY
  clear ret hE
  have q3:(8:Int)<ps.length∨(¬ (8 :Int)<ps.length∧shops<0)∨(¬(8 :Int)<ps.length∧¬shops<0∧8<shops):=by omega
  clear q1
  rcases q3 with q|⟨q,q2⟩|⟨q,q2,q4⟩
  all_goals
   go_enter Tryz.func20,Tryz.ntmps20
   go_upto_region 1 with fail
   try rw[hW]
   clear hW
   go_wp2_with fail
   try rw[hY]
   exact bodyPost_ret (v:=Dy.fv (5,0)) (results_cell Tryz.results20 rfl hres) rfl ⟨rfl,hbY⟩
 by_cases q2:cap<0∨1000000<cap
 ·have hE:setErr ps shops cap=(3,0):=by unfold setErr;rw[if_neg q1,if_pos q2]
  rw[hE]
  obtain ⟨Y,hY,hres,hbY⟩:=ret W (3,0) hf0 hb
  dsimp only at hY
  clear ret hE
  have p1:¬(8 :Int)<ps.length:=by omega
  have p2:¬shops<0:=by omega
  have p3:¬8<shops:=by omega
  clear q1
  have q3:cap<0∨(¬ cap<0∧1000000<cap):=by omega
  clear q2
  rcases q3 with q|⟨q,q2⟩
  all_goals
   go_enter Tryz.func20,Tryz.ntmps20
   go_upto_region 1 with fail
   try rw[hW]
   clear hW
   go_wp2_with fail
   try rw[hY]
   exact bodyPost_ret (v:=Dy.fv (3,0)) (results_cell Tryz.results20 rfl hres) rfl ⟨rfl,hbY⟩
 have p1:¬(8 :Int)<ps.length:=by omega
 have p2:¬shops<0:=by omega
 have p3:¬8<shops:=by omega
 have p4:¬cap<0:=by omega
 have p5:¬1000000<cap:=by omega
 have hE:Hid (setErr ps shops cap=badGo 0 (ps.drop 0)):=hid (by unfold setErr;rw[if_neg q1,if_neg q2];rfl)
 clear q1 q2
 go_enter Tryz.func20,Tryz.ntmps20
 go_upto_region 1 with fail
 try rw[hW]
 clear hW
 go_upto_region 6 with fail
 clear s0 s1 s2 f0 f1 f2 f3
 go_loopw[33](fun i wr=>∃k:Nat,k≤ps.length∧i=.int .i64 k∧Hid (setErr ps shops cap=badGo k (ps.drop k))∧Below W.heap.size W wr) (fun i _=>ps.length-(intOf i).toNat)
 case atStart=>exact ⟨0,Nat.zero_le _,rfl,hE,Below.refl _ _⟩
 case round=>
  clear hE
  obtain ⟨k,hk,rfl,hE,hbr⟩:=hrel
  have hfr:wr.heap[w.heap.size+1]?=some (fo (0,0)):=(hbr.block _ zl).trans hf0
  have hbw:Below w.heap.size w wr:=hb.trans (hbr.mono hb.size)
  by_cases hlt:k<ps.length
  ·have hlt':(k:Int)<ps.length:=by omega
   have hlr:=hl1.below hbr
   obtain ⟨z,off,rfl,zlt,hcell⟩:=hlr.elem (i:=k) (x:=ps.getD k zPa) (by simp[List.getD,hlt])
   have e0:=hcell 0 _ rfl
   have e1:=hcell 1 _ rfl
   have e2:=hcell 2 _ rfl
   simp only[Nat.add_zero] at e0
   dsimp only[kPa] at e0 e1 e2
   have hPW:=fun X:World=>wrong_any (ps.getD k zPa) X
   have hhit:=hid (bad_hit (ps:=ps) hlt)
   have hmiss:=hid (bad_miss (ps:=ps) hlt)
   have hb1:=below_alloc wr (.cells #[.int .i64 (ps.getD k zPa).t,.int .i64 (ps.getD k zPa).c,.int .i64 (ps.getD k zPa).s] 58)
   unfold pv at hPW
   clear hcell hlr
   generalize ps.getD k zPa=p at*
   by_cases hw:wrongP p=0
   ·have hm:=hid ((hE.out).trans (hmiss.out hw))
    clear hhit hmiss hE
    rw[hw] at hPW
    go_wp2_with (go_at_call 48;refine (hPW _).mono ?_;rintro e w1 ⟨rfl,hbP⟩)
    go_roundw
    case rel=>exact ⟨k+1,by omega,by go_num,hm,(hbr.trans (hb1.mono hbr.size)).trans (hbP.mono (by simp;have :=hbr.size;omega))⟩
    case measure=>simp[intOf];omega
   ·have hh:=hid ((hE.out).trans (hhit.out hw))
    have hw':(wrongP p !=0)=true:=by simpa using hw
    clear hhit hmiss hE hw
    generalize wrongP p=er at*
    go_upto_region 10 with (go_at_call 48;refine (hPW _).mono ?_;rintro e w1 ⟨rfl,hbP⟩)
    have hb3:Below wr.heap.size wr w1:=hb1.trans (hbP.mono (by simp))
    obtain ⟨Y,hY,hres,hbY⟩:=ret w1 (er,(k:Int)) ((hb3.block _ (lt_of_block hfr)).trans hfr) (hbw.trans (hb3.mono hbw.size))
    obtain ⟨f0,f1,f2,f3⟩:=fo_cells ((hb3.block _ (lt_of_block hfr)).trans hfr)
    dsimp only at hY f0 f1
    clear ret hb3 hbP hb1
    go_wp2_with fail
    try rw[hY]
    exact bodyPost_ret (v:=Dy.fv (er,(k:Int))) (results_cell Tryz.results20 rfl hres) rfl ⟨by rw[hh.out],hbY⟩
  ·obtain rfl:k=ps.length:=by omega
   have hz:Hid (setErr ps shops cap=(0,0)):=hid (by rw[hE.out];simp[badGo])
   obtain ⟨Y,hY,hres,hbY⟩:=ret wr (0,0) hfr hbw
   obtain ⟨f0,f1,f2,f3⟩:=fo_cells hfr
   dsimp only at hY f0 f1
   clear ret hE
   go_wp2_with fail
   try rw[hY]
   exact bodyPost_ret (v:=Dy.fv (0,0)) (results_cell Tryz.results20 rfl hres) rfl ⟨by rw[hz.out],hbY⟩
end Go.Proofs.YtofcnebekmjdoaaGreatDoor.Bn
