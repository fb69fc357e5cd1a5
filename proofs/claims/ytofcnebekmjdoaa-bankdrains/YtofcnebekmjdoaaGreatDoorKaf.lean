import Derived.BigQuiet
import Derived.Deep.QuietTactic
import Derived.Deep.CutRange
import Derived.Deep.RegionLaw
import Derived.Deep.RegionWith
import Derived.Test.YtofcnebekmjdoaaGreatDoorKaa
import Derived.Test.YtofcnebekmjdoaaGreatDoorKac
set_option maxHeartbeats 4000000
set_option maxRecDepth 100000
namespace Go.Proofs.YtofcnebekmjdoaaGreatDoor.Po
open Go.RowKit Go.Proofs.YtofcnebekmjdoaaGreatDoor.Gn
def tv (t:Tr):Value:=.agg #[.int .i64 t.n,.int .i64 t.k,.int .i64 t.a,.int .i64 t.s]
def tob (t:Tr):Obj:=.cells #[.int .i64 t.n,.int .i64 t.k,.int .i64 t.a,.int .i64 t.s] 64
def kT:Kind Tr where
 cells:=fun t=>[.int .i64 t.n,.int .i64 t.k,.int .i64 t.a,.int .i64 t.s]
 size:=4
 len:=fun _=>rfl
 one:=fun x u hu=>by simp at hu;rcases hu with rfl|rfl|rfl|rfl<;>rfl
 pos:=by decide
theorem infoT:(Tryz.prog.info? 64).map (fun i=>(i.zero,i.size,i.bytes))=some (some (.agg #[.int .i64 0,.int .i64 0,.int .i64 0,.int .i64 0]),4,32):=by kernel_rfl
theorem elemT:Elem Tryz.prog kT 29 64 32:=by
 obtain ⟨i,h1,h2,h3,h4⟩:=info_parts infoT
 exact ⟨Tryz.underlying29,i,_,h1,h2,h3,h4,rfl⟩
theorem tr_cells {w:World}{a:Option Addr}{cap:Nat}{L:List Tr}(h:Lies kT w a cap L){i:Nat}(hi:i<L.length):
  ∃b off,a=some ⟨b,off,none⟩∧b<w.heap.size∧w.cell? ⟨b,off+i*4,none⟩=some (.int .i64 (L.getD i zeroT).n)∧w.cell? ⟨b,off+i*4+1,none⟩=some (.int .i64 (L.getD i zeroT).k)∧
   w.cell? ⟨b,off+i*4+2,none⟩=some (.int .i64 (L.getD i zeroT).a)∧w.cell? ⟨b,off+i*4+3,none⟩=some (.int .i64 (L.getD i zeroT).s):=by
 obtain ⟨b,off,ha,hb,hc⟩:=h.elem (i:=i) (x:=L.getD i zeroT) (by simp[List.getD,hi])
 exact ⟨b,off,ha,hb,hc 0 _ rfl,hc 1 _ rfl,hc 2 _ rfl,hc 3 _ rfl⟩
theorem tob_cells {W:World} {b:Nat} {t:Tr}(hb:W.heap[b]?=some (tob t)):
  W.cell? ⟨b,0,none⟩=some (.int .i64 t.n)∧W.cell? ⟨b,1,none⟩=some (.int .i64 t.k)∧W.cell? ⟨b,2,none⟩=some (.int .i64 t.a)∧W.cell? ⟨b,3,none⟩=some (.int .i64 t.s):=by
 unfold tob at hb
 refine ⟨?_,?_,?_,?_⟩<;>simp[World.cell?,hb]
def sv (s:Se) (a:Option Addr) (cap:Nat):Value:=.agg #[.int .i64 s.sent,.slice a s.kept.length cap]
def so (s:Se) (a:Option Addr) (cap:Nat):Obj:=.cells #[.int .i64 s.sent,.slice a s.kept.length cap] 31
theorem so_cells {W:World} {b:Nat} {s:Se} {a:Option Addr} {cap:Nat} (hb:W.heap[b]?=some (so s a cap)):W.cell? ⟨b,0,none⟩=some (.int .i64 s.sent)∧W.cell? ⟨b,1,none⟩=some (.slice a s.kept.length cap):=by
 unfold so at hb
 refine ⟨?_,?_⟩<;>simp[World.cell?,hb]
theorem so_free {W:World}{b:Nat}{s:Se}{a:Option Addr}{cap:Nat}(hb:W.heap[b]?=some (so s a cap)):W.frozen? ⟨b,0,none⟩=false∧W.frozen? ⟨b,1,none⟩=false:=by
 unfold so at hb
 refine ⟨?_,?_⟩<;>simp[World.frozen?,hb]
theorem ret_bool {a b:Bool}(h:a=b):Ending.returned (.bool a)=.returned (.bool b):=by rw [h]
theorem ret_int {k:IntKind}{a b:Int} (h:a=b):Ending.returned (.int k a)=.returned (.int k b):=by rw [h]
theorem hid {p:Prop}(h:p):Hid p:=h
theorem numbers_any (m:Int) (w:World):
  Calls Tryz.prog 63 #[.int .i64 m] w fun e w'=>e=.returned (.func (.func 92) #[] #[.pointer (some ⟨w.heap.size,0,none⟩)])∧w'=w.alloc (.cells #[.int .i64 m] 3):=by
 have hmf:∀(fn:Fn) (first cap:Array Value) (w:World),(Instr.makeFunc fn first cap).run Tryz.prog w=.ok (.func fn first cap) w:=fun _ _ _ _=>rfl
 go_enter Tryz.func63,Tryz.ntmps63
 go_wp2
 go_ret
 exact ⟨rfl,rfl⟩
theorem number_any (c:Nat) (m:Int) (w:World) (hc:w.heap[c]?=some (.cells #[.int .i64 m] 3)) (h1:-1000000000≤m) (h2:m≤1000000000):
  Calls Tryz.prog 92 #[.pointer (some ⟨c,0,none⟩)] w fun e w'=>e=.returned (.int .i64 (m+1))∧w'=w.setCell ⟨c,0,none⟩ (.int .i64 (m+1)):=by
 have C1:w.cell? ⟨c,0,none⟩=some (.int .i64 m):=cell_of_one hc
 have F1:w.frozen? ⟨c,0,none⟩=false:=free_of_one hc
 clear hc
 go_enter Tryz.func92,Tryz.ntmps92
 go_wp2
 go_ret
 exact ⟨rfl,rfl⟩
theorem wrongT_ways (t:Tr) (m:Int):
  ((t.k !=1)=true∧(t.k !=2)=true∧(t.k !=3)=true∧Hid (wrongT t m=1))∨
  (((t.k !=1)=false∨((t.k !=1)=true∧(t.k !=2)=false)∨((t.k !=1)=true∧(t.k !=2)=true∧(t.k !=3)=false))∧
   ((t.a<0∧Hid (wrongT t m=3))∨(0 ≤t.a∧30≤t.a∧Hid (wrongT t m=3))∨(0 ≤t.a∧t.a<30∧t.s<1∧Hid (wrongT t m=3))∨(0 ≤t.a∧t.a<30∧1≤t.s∧1000000<t.s∧Hid (wrongT t m=3))∨
    (0≤t.a∧t.a<30∧1≤t.s∧t.s≤1000000∧(t.n !=m)=true∧Hid (wrongT t m=2))∨(0≤t.a∧t.a<30∧1≤t.s∧t.s≤1000000∧(t.n !=m)=false∧Hid (wrongT t m=0)))):=by
 by_cases hk:noKind t.k
 ·exact Or.inl ⟨by simpa using hk.1,by simpa using hk.2.1,by simpa using hk.2.2,by unfold Hid wrongT;rw[if_pos hk]⟩
 right
 have k':((t.k !=1)=false∨((t.k !=1)=true∧(t.k !=2)=false)∨((t.k !=1)=true∧(t.k !=2)=true∧(t.k !=3)=false)):=by
  unfold noKind at hk
  by_cases h1:t.k=1
  ·exact Or.inl (by simpa using h1)
  by_cases h2:t.k=2
  ·exact Or.inr (Or.inl ⟨by simpa using h1,by simpa using h2⟩)
  by_cases h3:t.k=3
  ·exact Or.inr (Or.inr ⟨by simpa using h1,by simpa using h2,by simpa using h3⟩)
  ·exact absurd ⟨h1,h2,h3⟩ hk
 refine ⟨k',?_⟩
 have y:far t.a t.s→Hid (wrongT t m=3):=fun h=>by unfold Hid wrongT;rw[if_neg hk,if_pos h]
 by_cases h1:t.a<0
 ·exact Or.inl ⟨h1,y (by unfold far;omega)⟩
 by_cases h2:30≤t.a
 ·exact Or.inr (Or.inl ⟨by omega,h2,y (by unfold far;omega)⟩)
 by_cases h3:t.s<1
 ·exact Or.inr (Or.inr (Or.inl ⟨by omega,by omega,h3,y (by unfold far;omega)⟩))
 by_cases h4:1000000<t.s
 ·exact Or.inr (Or.inr (Or.inr (Or.inl ⟨by omega,by omega,by omega,h4,y (by unfold far;omega)⟩)))
 have hf:¬far t.a t.s:=by unfold far;omega
 by_cases h5:t.n=m
 ·exact Or.inr (Or.inr (Or.inr (Or.inr (Or.inr ⟨by omega,by omega,by omega,by omega,by simpa using h5,by unfold Hid wrongT;rw[if_neg hk,if_neg hf,if_neg (by simpa using h5)]⟩))))
 ·exact Or.inr (Or.inr (Or.inr (Or.inr (Or.inl ⟨by omega,by omega,by omega,by omega,by simpa using h5,by unfold Hid wrongT;rw[if_neg hk,if_neg hf,if_pos h5]⟩))))
theorem wrongTransfer_any (t:Tr) (m:Int) (w:World):
  Calls Tryz.prog 64 #[tv t,.int .i64 m] w fun e w'=>e=.returned (.int .i64 (wrongT t m))∧Below w.heap.size w w':=by
 unfold tv
 have b0:∀o,Below w.heap.size w (w.alloc o):=below_alloc w
 rcases wrongT_ways t m with ⟨h1,h2,h3,H⟩|⟨hk,h⟩
 ·go_enter Tryz.func64,Tryz.ntmps64
  go_wp2
  go_ret
  exact ⟨ret_int H.out.symm,b0 _⟩
 ·rcases hk with k1|⟨k1,k2⟩|⟨k1,k2,k3⟩<;>rcases h with ⟨h1,H⟩|⟨h1,h2,H⟩|⟨h1,h2,h3,H⟩|⟨h1,h2,h3,h4,H⟩|⟨h1,h2,h3,h4,h5,H⟩|⟨h1,h2,h3,h4,h5,H⟩
  all_goals
   go_enter Tryz.func64,Tryz.ntmps64
   go_wp2
   go_ret
   exact ⟨ret_int H.out.symm,b0 _⟩
theorem above_any (seen:Int) (w:World):
  Calls Tryz.prog 178 #[.int .i64 seen] w fun e w'=>e=.returned (.func (.func 184) #[] #[.pointer (some ⟨w.heap.size,0,none⟩)])∧w'=w.alloc (.cells #[.int .i64 seen] 3):=by
 have hmf:∀(fn:Fn) (first cap:Array Value) (w:World),(Instr.makeFunc fn first cap).run Tryz.prog w=.ok (.func fn first cap) w:=fun _ _ _ _=>rfl
 go_enter Tryz.func178,Tryz.ntmps178
 go_wp2
 go_ret
 exact ⟨rfl,rfl⟩
theorem stays_any (t:Tr) (c:Nat) (seen:Int) (w:World) (hc:w.heap[c]?=some (.cells #[.int .i64 seen] 3)):
  Calls Tryz.prog 184 #[tv t,.pointer (some ⟨c,0,none⟩)] w fun e w'=>e=.returned (.bool (decide (seen<t.n)))∧Below w.heap.size w w':=by
 have hcl:c<w.heap.size:=lt_of_block hc
 have hc1:∀o',(w.alloc o').cell? ⟨c,0,none⟩=some (.int .i64 seen):=fun o'=>by rw[World.cell?_alloc_past _ _ _ hcl];exact cell_of_one hc
 clear hc
 unfold tv
 by_cases h:seen<t.n
 all_goals
  go_enter Tryz.func184,Tryz.ntmps184
  go_wp2
  go_ret
  exact ⟨ret_bool (by simp[h]),below_alloc _ _⟩
structure Wr (w:World) (s:Se) (a:Option Addr) (cap:Nat) (c:Nat) (m:Int) (W:World):Prop where
 bel:Below w.heap.size w W
 box:W.heap[w.heap.size]?=some (so s a cap)
 res:W.heap[w.heap.size+1]?=some (.cells #[.int .i64 0,.int .i64 0] 47)
 num:W.heap[c]?=some (.cells #[.int .i64 m] 3)
 lt:w.heap.size+1<c
theorem Wr.on {w:World}{s:Se}{a:Option Addr}{cap c:Nat}{m:Int}{W W':World} (h:Wr w s a cap c m W) (hb:Below W.heap.size W W'):Wr w s a cap c m W':=
 ⟨h.bel.trans (hb.mono h.bel.size),(hb.block _ (lt_of_block h.box)).trans h.box,(hb.block _ (lt_of_block h.res)).trans h.res,(hb.block _ (lt_of_block h.num)).trans h.num,h.lt⟩
theorem Wr.step {w:World} {s:Se} {a:Option Addr} {cap c:Nat} {m:Int} {W:World} (h:Wr w s a cap c m W) (m':Int):Wr w s a cap c m' (W.setCell ⟨c,0,none⟩ (.int .i64 m')):=by
 have l:=h.lt
 exact ⟨h.bel.setCell (by simp;omega) _,(Below.heap_setCell _ _ _ _ (by simp;omega)).trans h.box,(Below.heap_setCell _ _ _ _ (by simp;omega)).trans h.res,one_setCell h.num,l⟩
theorem fault_cells {W:World}{b:Nat}{x y:Int}(h:W.heap[b]?=some (.cells #[.int .i64 x,.int .i64 y] 47)):
  W.cell? ⟨b,0,none⟩=some (.int .i64 x)∧W.cell? ⟨b,1,none⟩=some (.int .i64 y)∧W.frozen? ⟨b,0,none⟩=false∧W.frozen? ⟨b,1,none⟩=false:=by
 refine ⟨?_,?_,?_,?_⟩<;>simp[World.cell?,World.frozen?,h]
theorem numbers_at (m:Int) (w:World):
  Calls Tryz.prog 63 #[.int .i64 m] w fun e w'=>∃c,e=.returned (.func (.func 92) #[] #[.pointer (some ⟨c,0,none⟩)])∧c=w.heap.size∧w'=w.alloc (.cells #[.int .i64 m] 3):=
 (numbers_any m w).mono fun _ _ ⟨h1,h2⟩=>⟨_,h1,rfl,h2⟩
theorem wrong_any (s:Se) (a:Option Addr) (cap:Nat) (w:World) (hL:Lies kT w a cap s.kept):
  Calls Tryz.prog 29 #[sv s a cap] w fun e w'=>e=.returned (.agg #[.int .i64 (wrongS s).1,.int .i64 (wrongS s).2])∧Below w.heap.size w w':=by
 have hm:=hL.len
 unfold maxLen at hm
 unfold sv
 have b1:∀o o',Below w.heap.size w ((w.alloc o).alloc o'):=fun o o'=>(below_alloc _ _).alloc (by simp) _
 by_cases hf:40<s.kept.length
 ·have HG:=hid (wrongS_many hf)
  have hf':(40:Int)<s.kept.length:=by omega
  go_enter Tryz.func29,Tryz.ntmps29
  go_wp2
  refine bodyPost_ret (v:=.agg #[.int .i64 5,.int .i64 0]) (by simp[results,Tryz.results29,go_sem];try rfl) rfl ⟨?_,?_⟩
  ·rw[HG.out]
  ·repeat refine Below.setCell ?_ (by simp) _
   exact b1 _ _
 have hf0:s.kept.length≤40:=by omega
 have hf':(s.kept.length :Int)≤40:=by omega
 clear hf
 by_cases h1:s.sent<s.kept.length
 ·have HG:=hid (wrongS_range hf0 (Or.inl h1))
  go_enter Tryz.func29,Tryz.ntmps29
  go_wp2
  refine bodyPost_ret (v:=.agg #[.int .i64 3,.int .i64 0]) (by simp[results,Tryz.results29,go_sem];try rfl) rfl ⟨?_,?_⟩
  ·rw[HG.out]
  ·repeat refine Below.setCell ?_ (by simp) _
   exact b1 _ _
 have h1':(s.kept.length:Int)≤s.sent:=by omega
 clear h1
 by_cases h2:1000000<s.sent
 ·have HG:=hid (wrongS_range hf0 (Or.inr h2))
  go_enter Tryz.func29,Tryz.ntmps29
  go_wp2
  refine bodyPost_ret (v:=.agg #[.int .i64 3,.int .i64 0]) (by simp[results,Tryz.results29,go_sem];try rfl) rfl ⟨?_,?_⟩
  ·rw[HG.out]
  ·repeat refine Below.setCell ?_ (by simp) _
   exact b1 _ _
 have h2':s.sent≤1000000:=by omega
 clear h2
 go_enter Tryz.func29,Tryz.ntmps29
 go_wp2_with fail
 refine (numbers_at _ _).mono ?_
 rintro e w1 ⟨c,rfl,hc,rfl⟩
 have W0:Wr w s a cap c (s.sent -s.kept.length) (((w.alloc (so s a cap)).alloc (.cells #[.int .i64 0,.int .i64 0] 47)).alloc (.cells #[.int .i64 (s.sent -s.kept.length)] 3)):=by
  have e2:c=w.heap.size+2:=by simpa using hc
  refine ⟨(b1 _ _).alloc (by simp;omega) _,?_,?_,heap_alloc_at _ _ _ (by simp;omega),by omega⟩
  ·rw[Below.heap_alloc _ _ _ (by simp;omega),Below.heap_alloc _ _ _ (by simp),heap_alloc_at _ _ _ rfl]
  ·rw[Below.heap_alloc _ _ _ (by simp),heap_alloc_at _ _ _ (by simp)]
 unfold so at W0
 clear hc b1
 generalize ((w.alloc (.cells #[.int .i64 s.sent,.slice a s.kept.length cap] 31)).alloc (.cells #[.int .i64 0,.int .i64 0] 47)).alloc (.cells #[.int .i64 (s.sent-s.kept.length)] 3)=w1 at*
 obtain ⟨B0,B1⟩:=so_cells W0.box
 go_wp2
 go_loopw[34](fun i wr=>∃(k:Nat),k≤s.kept.length∧i=.int .i64 k∧Hid (Good s k)∧Wr w s a cap c (s.sent-s.kept.length+k) wr) (fun i _=>s.kept.length-(intOf i).toNat)
 case atStart=>exact ⟨0,Nat.zero_le _,rfl,good_zero hf0 h1' h2',by simpa using W0⟩
 case round=>
  obtain ⟨k,hk,rfl,hg,hw⟩:=hrel
  clear W0 B0 B1
  generalize wr=W at*
  obtain ⟨R0,R1,F0,F1⟩:=fault_cells hw.res
  by_cases hlt:k<s.kept.length
  ·have hlt':(k :Int)<s.kept.length:=by omega
   obtain ⟨b,off,rfl,hbl,e1,e2,e3,e4⟩:=tr_cells (hL.below hw.bel) hlt
   have hW:=hw.on (below_alloc W (tob (s.kept.getD k zeroT)))
   have HB:=hid (fun h=>hg.out.bad hlt h)
   have HN:=hid (fun h=>hg.out.next hlt h)
   clear hg R0 R1 F0 F1
   generalize s.kept.getD k zeroT=t at*
   go_upto_region 9 with fail
   have hT:(W.alloc (tob t)).heap[W.heap.size]?=some (tob t):=heap_alloc_at _ _ _ rfl
   unfold tob at hW hT
   have hcW:=lt_of_block hw.num
   clear e1 e2 e3 e4 hw
   generalize W.alloc (.cells #[.int .i64 t.n,.int .i64 t.k,.int .i64 t.a,.int .i64 t.s] 64)=W1 at*
   obtain ⟨T0,T1,T2,T3⟩:=tob_cells hT
   have far:∀j,∀v,(W1.drew.setCell ⟨c,0,none⟩ v).cell? ⟨W.heap.size,j,none⟩=W1.cell? ⟨W.heap.size,j,none⟩:=fun j v=>World.cell?_of_block (w:=W1) (a:=⟨W.heap.size,j,none⟩) ((heap_setCell_other _ _ _ _ (by simp;omega)).trans rfl)
   have hnum:=hW.num
   go_cut[6] from 39 to 43 (fun v wc=>v=.int .i64 (wrongT t (s.sent-s.kept.length+1+k))∧Wr w s (some ⟨b,off,none⟩) cap c (s.sent -s.kept.length+1+k) wc)
   case first=>
    go_region_with (first
     |(go_at_call 92;refine (number_any c (s.sent-s.kept.length+k) _ ?_ (by omega) (by omega)).mono ?_;exact hnum;rintro e w2 ⟨rfl,rfl⟩)
     |(go_at_call 64;refine (wrongTransfer_any t _ _).mono ?_;rintro e w3 ⟨rfl,hb3⟩))
    all_goals (go_wp2_with fail;go_meet;rw[show s.sent-s.kept.length+1+(k :Int)=s.sent-s.kept.length+k+1 by omega];exact ⟨rfl,(hW.step _).on (((Below.refl _ _).drew).trans hb3)⟩)
   case rest=>
    obtain ⟨rfl,hw⟩:=hcut
    clear hW hT T0 T1 T2 T3 far hnum
    generalize wc=W2 at*
    obtain ⟨R0,R1,F0,F1⟩:=fault_cells hw.res
    by_cases h0:wrongT t (s.sent-s.kept.length+1+k)=0
    ·have HG:=hid (HN.out h0)
     have hne:(wrongT t (s.sent-s.kept.length+1+k)!=0)=false:=by simpa using h0
     clear h0 HB HN
     generalize wrongT t (s.sent -s.kept.length+1+k)=r at*
     go_wp2
     go_roundw
     case rel=>exact ⟨k+1,by omega,by go_num,HG,by rw[show s.sent-s.kept.length+((k+1:Nat):Int)=s.sent-s.kept.length+1+k by omega];exact hw⟩
     case measure=>simp[intOf];omega
    ·have HG:=hid (HB.out h0)
     have hne:(wrongT t (s.sent-s.kept.length+1+k)!=0)=true:=by simpa using h0
     clear h0 HB HN
     generalize wrongT t (s.sent -s.kept.length+1+k)=r at*
     have bb:=hw.bel
     go_wp2
     refine bodyPost_ret (v:=.agg #[.int .i64 r,.int .i64 k]) (by simp[results,Tryz.results29,go_sem,R0,R1];try rfl) rfl ⟨?_,?_⟩
     ·rw[HG.out]
     ·repeat refine Below.setCell ?_ (by simp) _
      exact bb
  ·have HG:=hid (hg.out.done (by omega))
   clear hg
   have bb:=hw.bel
   go_wp2
   refine bodyPost_ret (v:=.agg #[.int .i64 0,.int .i64 0]) (by simp[results,Tryz.results29,go_sem,R0,R1];try rfl) rfl ⟨?_,?_⟩
   ·rw[HG.out]
   ·repeat refine Below.setCell ?_ (by simp) _
    exact bb
def Made (w:World) (L:List Tr) (e:Ending) (w':World):Prop:=
 ∃v,e=.returned v∧Row kT 64 w' w.heap.size v L∧Below w.heap.size w w'
theorem those_any (a:Option Addr) (cap:Nat) (L:List Tr) (c:Nat) (seen:Int) (w:World) (hL:Lies kT w a cap L) (hc:w.heap[c]?=some (.cells #[.int .i64 seen] 3)) (hf:L.length≤40):
  Calls Tryz.prog 177 #[.slice a L.length cap,.func (.func 184) #[] #[.pointer (some ⟨c,0,none⟩)]] w (Made w (those seen L)):=by
 go_enter Tryz.func177,Tryz.ntmps177
 go_wp2
 go_loopw[5,10](fun v i wr=>∃k:Nat,k≤L.length∧i=.int .i64 k∧Row kT 64 wr w.heap.size v (those seen (L.take k))∧Below w.heap.size w wr) (fun _ i _=>L.length-(intOf i).toNat)
 case atStart=>exact ⟨0,Nat.zero_le _,rfl,.nil,Below.refl _ _⟩
 case round=>
  obtain ⟨k,hk,rfl,hown,hb⟩:=hrel
  have hsw:=hb.size
  generalize wr=W at*
  by_cases hlt:k<L.length
  ·have hlt':(k:Int)<L.length:=by omega
   obtain ⟨b,off,rfl,hbl,e1,e2,e3,e4⟩:=tr_cells (hL.below hb) hlt
   have HH:=hid (those_hit (seen:=seen) hlt)
   have HM:=hid (those_miss (seen:=seen) hlt)
   have hle:=those_take_le seen L k
   have hcW:W.heap[c]?=some (.cells #[.int .i64 seen] 3):=(hb.block _ (lt_of_block hc)).trans hc
   have hcl:=lt_of_block hcW
   generalize L.getD k zeroT=t at*
   by_cases hq:seen<t.n
   ·have HH':=hid (HH.out hq)
    clear HH HM
    have hd:decide (seen<t.n)=true:=by simpa using hq
    go_wp2_with fail
    refine (stays_any t c seen _ ((Below.heap_alloc _ _ _ hcl).trans hcW)).mono ?_
    rintro e w2 ⟨rfl,hb2⟩
    rw[hd]
    have hown2:=(hown.alloc _).below hb2
    have hb12:Below w.heap.size w w2:=hb.trans (((below_alloc _ _).trans (hb2.mono (by simp))).mono hsw)
    have hT:w2.heap[W.heap.size]?=some (tob t):=(hb2.block _ (by simp)).trans (heap_alloc_at _ _ _ rfl)
    obtain ⟨T0,T1,T2,T3⟩:=tob_cells hT
    have hs2:=hb12.size
    clear hown hb2 e1 e2 e3 e4 hT
    go_wp2_with (at_builtin;refine wpList_append elemT _ rfl _ _ rfl w.heap.size _ _ rfl (hown2.alloc _) (some ⟨w2.heap.size,0,none⟩) 1 1 [t] rfl rfl (lies_one (heap_alloc_at _ _ _ rfl) rfl _) ?c3 ?c4 ?c5 ?_)
    case c3=>simp[maxLen];omega
    case c4=>simp;omega
    case c5=>simp;omega
    intro v' w3 hown' hgrow _ _
    have hb':Below w.heap.size w w3:=below_grown (hb12.alloc hs2 _) hgrow (hown2.alloc _) (Nat.le_refl _) (by simp;omega)
    clear hgrow hown2
    go_wp2
    go_roundw
    case rel=>exact ⟨k+1,by omega,by go_num,by rw[HH'.out];exact hown',hb'⟩
    case measure=>simp[intOf];omega
   ·have HM':=hid (HM.out hq)
    clear HH HM
    have hd:decide (seen <t.n)=false:=by simpa using hq
    go_wp2_with fail
    refine (stays_any t c seen _ ((Below.heap_alloc _ _ _ hcl).trans hcW)).mono ?_
    rintro e w2 ⟨rfl,hb2⟩
    rw[hd]
    have hown2:=(hown.alloc _).below hb2
    have hb12:Below w.heap.size w w2:=hb.trans (((below_alloc _ _).trans (hb2.mono (by simp))).mono hsw)
    clear hown hb2
    go_wp2
    go_roundw
    case rel=>exact ⟨k+1,by omega,by go_num,by rw[HM'.out];exact hown2,hb12⟩
    case measure=>simp[intOf];omega
  ·have HA:=hid (those_all (seen:=seen) (L:=L) (k:=k) (by omega))
   go_wp2
   go_ret
   exact ⟨_,rfl,by rw[←HA.out];exact hown,hb⟩
theorem taken_ways (seen n:Int):
  (seen <0∧Hid (taken seen n=false))∨(0≤seen∧1000000≤seen∧Hid (taken seen n=false))∨(0≤seen∧seen<1000000∧(n !=seen+1)=true∧Hid (taken seen n=false))∨
  (0 ≤seen∧seen<1000000∧(n !=seen+1)=false∧Hid (taken seen n=true)∧Hid (n =seen+1)):=by
 by_cases h1:seen<0
 ·exact Or.inl ⟨h1,taken_false.2 (by omega)⟩
 by_cases h2:1000000≤seen
 ·exact Or.inr (Or.inl ⟨by omega,h2,taken_false.2 (by omega)⟩)
 by_cases h3:n=seen+1
 ·exact Or.inr (Or.inr (Or.inr ⟨by omega,by omega,by simpa using h3,taken_true.2 (by omega),h3⟩))
 ·exact Or.inr (Or.inr (Or.inl ⟨by omega,by omega,by simpa using h3,taken_false.2 (by omega)⟩))
def took (seen n:Int):Int:=if taken seen n=true then seen+1 else seen
theorem took_true {seen n:Int}(h:taken seen n=true):took seen n=seen+1:=by unfold took;rw[if_pos h]
theorem took_false {seen n:Int}(h:taken seen n=false):took seen n=seen:=by unfold took;rw[if_neg (by simp[h])]
theorem ret_take {a b:Int}{x y:Bool}(h1:a=b) (h2:x=y):Ending.returned (.tuple #[.int .i64 a,.bool x])=.returned (.tuple #[.int .i64 b,.bool y]):=by rw[h1,h2]
theorem take_any (seen:Int) (t:Tr) (w:World):
  Calls Tryz.prog 136 #[.int .i64 seen,tv t] w fun e w'=>e=.returned (.tuple #[.int .i64 (took seen t.n),.bool (taken seen t.n)])∧Below w.heap.size w w':=by
 unfold tv
 have b0:∀o,Below w.heap.size w (w.alloc o):=below_alloc w
 rcases taken_ways seen t.n with ⟨h1,H⟩|⟨h1,h2,H⟩|⟨h1,h2,h3,H⟩|⟨h1,h2,h3,H,H2⟩
 rotate_right
 ·go_enter Tryz.func136,Tryz.ntmps136
  go_wp2
  go_ret2
  exact ⟨ret_take (by rw[took_true H.out,H2.out]) H.out.symm,b0 _⟩
 all_goals
  go_enter Tryz.func136,Tryz.ntmps136
  go_wp2
  go_ret2
  exact ⟨ret_take (took_false H.out).symm H.out.symm,b0 _⟩
end Go.Proofs.YtofcnebekmjdoaaGreatDoor.Po
