import Derived.Test.YtofcnebekmjdoaaGreatDoorKaw
set_option maxHeartbeats 4000000
set_option maxRecDepth 100000
namespace Go.Proofs.YtofcnebekmjdoaaGreatDoor
open Go.RowKit
def Tied (S:Nat) (a0:Option Addr) (u0:List (Int×Int)) (a:Option Addr) (u:List (Int ×Int)):Prop:=Past S a∨(a =a0∧u=u0)
def AnswersO (w:World) (a0:Option Addr) (u0:List (Int×Int)) (r:Ca×Int) (e:Ending) (w':World):Prop:=
 ∃a cap,e=.returned (.tuple #[cv r.1 a cap,.int .i64 r.2])∧Lies w' a cap r.1.u∧Tied w.heap.size a0 u0 a r.1.u∧Below w.heap.size w w'
structure Two (w:World) (c:Ca) (a:Option Addr) (cap:Nat) (W:World):Prop where
 bel:Below w.heap.size w W
 box:CardAt W w.heap.size c a cap
 res:W.heap[w.heap.size+1]?=some (co zeroC none 0)
theorem Two.lt {w W:World} {c:Ca} {a:Option Addr} {cap:Nat} (h:Two w c a cap W):w.heap.size+1<W.heap.size:=lt_of_block h.res
theorem Two.on {w W W':World}{c:Ca}{a:Option Addr}{cap:Nat}(h:Two w c a cap W) (hb:Below W.heap.size W W'):Two w c a cap W':=
 ⟨h.bel.trans (hb.mono h.bel.size),h.box.on hb,(hb.block _ h.lt).trans h.res⟩
theorem two_new {w:World} {c:Ca} {a:Option Addr} {cap:Nat}(hL:Lies w a cap c.u):Two w c a cap ((w.alloc (co c a cap)).alloc (co zeroC none 0)):=
 ⟨(below_alloc _ _).trans ((below_alloc _ _).mono (by simp)),(card_new w c a cap hL).alloc _,heap_alloc_at _ _ _ (by simp)⟩
theorem co_put {W:World} {b:Nat} {c:Ca} {a:Option Addr} {cap:Nat} (h:W.heap[b]?=some (co c a cap)) (c':Ca) (a':Option Addr) (cap':Nat):
  ((((((W.setCell ⟨b,0,none⟩ (.int .i64 c'.m)).setCell ⟨b,1,none⟩ (.int .i64 c'.h)).setCell ⟨b,2,none⟩ (.int .i64 c'.p.t)).setCell ⟨b,3,none⟩ (.int .i64 c'.p.c)).setCell ⟨b,4,none⟩ (.int .i64 c'.p.s)).setCell ⟨b,5,none⟩ (.slice a' c'.u.length cap')).heap[b]?=some (co c' a' cap'):=by
 unfold co at h⊢
 have h1:=heap_setCell_same _ _ 0 _ _ (.int .i64 c'.m) h
 have h2:=heap_setCell_same _ _ 1 _ _ (.int .i64 c'.h) h1
 have h3:=heap_setCell_same _ _ 2 _ _ (.int .i64 c'.p.t) h2
 have h4:=heap_setCell_same _ _ 3 _ _ (.int .i64 c'.p.c) h3
 have h5:=heap_setCell_same _ _ 4 _ _ (.int .i64 c'.p.s) h4
 have h6:=heap_setCell_same _ _ 5 _ _ (.slice a' c'.u.length cap') h5
 exact h6
theorem Two.put{w W:World}{c:Ca}{a:Option Addr}{cap:Nat}(h:Two w c a cap W) (c':Ca) (a':Option Addr) (cap':Nat) (hl:Lies W a' cap' c'.u) (hp:Past (w.heap.size +2) a'):
  Two w c' a' cap' ((((((W.setCell ⟨w.heap.size,0,none⟩ (.int .i64 c'.m)).setCell ⟨w.heap.size,1,none⟩ (.int .i64 c'.h)).setCell ⟨w.heap.size,2,none⟩ (.int .i64 c'.p.t)).setCell ⟨w.heap.size,3,none⟩ (.int .i64 c'.p.c)).setCell ⟨w.heap.size,4,none⟩ (.int .i64 c'.p.s)).setCell ⟨w.heap.size,5,none⟩ (.slice a' c'.u.length cap')):=by
 have b1:=h.bel.setCell (Nat.le_refl (⟨w.heap.size,0,none⟩:Addr).block) (.int .i64 c'.m)
 have b2:=b1.setCell (Nat.le_refl (⟨w.heap.size,1,none⟩:Addr).block) (.int .i64 c'.h)
 have b3:=b2.setCell (Nat.le_refl (⟨w.heap.size,2,none⟩:Addr).block) (.int .i64 c'.p.t)
 have b4:=b3.setCell (Nat.le_refl (⟨w.heap.size,3,none⟩:Addr).block) (.int .i64 c'.p.c)
 have b5:=b4.setCell (Nat.le_refl (⟨w.heap.size,4,none⟩:Addr).block) (.int .i64 c'.p.s)
 have b6:=b5.setCell (Nat.le_refl (⟨w.heap.size,5,none⟩:Addr).block) (.slice a' c'.u.length cap')
 have l1:=hl.set hp (p:=⟨w.heap.size,0,none⟩) (by simp) (.int .i64 c'.m)
 have l2:=l1.set hp (p:=⟨w.heap.size,1,none⟩) (by simp) (.int .i64 c'.h)
 have l3:=l2.set hp (p:=⟨w.heap.size,2,none⟩) (by simp) (.int .i64 c'.p.t)
 have l4:=l3.set hp (p:=⟨w.heap.size,3,none⟩) (by simp) (.int .i64 c'.p.c)
 have l5:=l4.set hp (p:=⟨w.heap.size,4,none⟩) (by simp) (.int .i64 c'.p.s)
 have l6:=l5.set hp (p:=⟨w.heap.size,5,none⟩) (by simp) (.slice a' c'.u.length cap')
 have r1:=(heap_setCell_other W ⟨w.heap.size,0,none⟩ (w.heap.size +1) (.int .i64 c'.m) (by simp)).trans h.res
 have r2:=(heap_setCell_other _ ⟨w.heap.size,1,none⟩ (w.heap.size +1) (.int .i64 c'.h) (by simp)).trans r1
 have r3:=(heap_setCell_other _ ⟨w.heap.size,2,none⟩ (w.heap.size +1) (.int .i64 c'.p.t) (by simp)).trans r2
 have r4:=(heap_setCell_other _ ⟨w.heap.size,3,none⟩ (w.heap.size +1) (.int .i64 c'.p.c) (by simp)).trans r3
 have r5:=(heap_setCell_other _ ⟨w.heap.size,4,none⟩ (w.heap.size +1) (.int .i64 c'.p.s) (by simp)).trans r4
 have r6:=(heap_setCell_other _ ⟨w.heap.size,5,none⟩ (w.heap.size +1) (.slice a' c'.u.length cap') (by simp)).trans r5
 exact ⟨b6,⟨co_put h.box.block c' a' cap',l6⟩,r6⟩
theorem Two.held {w W:World}{c:Ca}{a:Option Addr}{cap:Nat}(h:Two w c a cap W) (n:Int) (hp:Past (w.heap.size +2) a):Two w ⟨c.m,n,c.p,c.u⟩ a cap (W.setCell ⟨w.heap.size,1,none⟩ (.int .i64 n)):=by
 refine ⟨h.bel.setCell (Nat.le_refl _) _,⟨?_,h.box.lies.set hp (by simp) _⟩,?_⟩
 ·have hb:=h.box.block
  unfold co at hb⊢
  exact heap_setCell_same _ _ 1 _ _ (.int .i64 n) hb
 ·rw[heap_setCell_other _ _ _ _ (by simp)];exact h.res
theorem Two.money {w W:World}{c:Ca}{a:Option Addr}{cap:Nat}(h:Two w c a cap W) (n:Int) (hp:Past (w.heap.size +2) a):Two w ⟨n,c.h,c.p,c.u⟩ a cap (W.setCell ⟨w.heap.size,0,none⟩ (.int .i64 n)):=by
 refine ⟨h.bel.setCell (Nat.le_refl _) _,⟨?_,h.box.lies.set hp (by simp) _⟩,?_⟩
 ·have hb:=h.box.block
  unfold co at hb⊢
  exact heap_setCell_same _ _ 0 _ _ (.int .i64 n) hb
 ·rw[heap_setCell_other _ _ _ _ (by simp)];exact h.res
theorem force_ways (s h:Int):
  (isOne s=false∧Hid (s <1∨1000000<s∨1000000000000<h+s))∨(isOne s=true∧1000000000000<h+s∧1≤s∧s≤1000000∧Hid (s <1∨1000000<s∨1000000000000<h+s))∨
  (isOne s=true∧h+s≤1000000000000∧1≤s∧s≤1000000∧Hid (¬(s<1∨1000000<s∨1000000000000<h+s))):=by
 cases h1:isOne s with
 |false=>exact Or.inl ⟨rfl,by have :=isOne_false.1 h1;unfold Hid;omega⟩
 |true=>
  obtain ⟨h2,h3⟩:=isOne_true.1 h1
  by_cases h4:1000000000000<h+s
  ·exact Or.inr (Or.inl ⟨rfl,h4,h2,h3,by unfold Hid;omega⟩)
  ·exact Or.inr (Or.inr ⟨rfl,by omega,h2,h3,by unfold Hid;omega⟩)
theorem right_few {c:Ca}(R:RightC c):c.u.length≤30:=(uses_ok R.uses).1
theorem force_all (c:Ca) (a:Option Addr) (cap:Nat) (s:Int) (w:World) (hL:Lies w a cap c.u):
  Calls Tryz.prog 162 #[cv c a cap,.int .i64 s] w (AnswersO w a c.u (forceC c s)):=by
 have T0:=two_new hL
 unfold cv
 go_enter Tryz.func162,Tryz.ntmps162
 go_wp2_with fail
 refine (cwrong_any c a cap _ (two_new hL).box.lies).mono ?_
 rintro e w1 ⟨rfl,hb1⟩
 have T1:=T0.on hb1
 clear T0 hb1
 obtain ⟨C0,C1,C2,C3,C4,C5⟩:=T1.box.cells
 obtain ⟨F0,F1,F2,F3,F4,F5⟩:=co_free T1.box.block
 obtain ⟨R0,R1,R2,R3,R4,R5⟩:=co_cells T1.res
 obtain ⟨E0,E1,E2,E3,E4,E5⟩:=co_free T1.res
 by_cases h0:wrongC c=0
 rotate_left
 ·have HW:=hid (forceC_wrong (s:=s) h0)
  have hne:(wrongC c !=0)=true:=by simpa using h0
  clear h0
  generalize wrongC c=r at*
  go_wp2
  refine bodyPost_ret (v:=.tuple #[.agg #[.int .i64 0,.int .i64 0,.int .i64 0,.int .i64 0,.int .i64 0,.slice none 0 0],.int .i64 r]) (by simp[results,Tryz.results162,go_sem,R0,R1,R2,R3,R4,R5];try rfl) rfl ?_
  unfold AnswersO
  rw[HW.out]
  refine ⟨none,0,rfl,lies_nil _,Or.inl (past_none _),?_⟩
  repeat refine Below.setCell ?_ (by simp) _
  exact T1.bel
 have hne:(wrongC c !=0)=false:=by simpa using h0
 have R:=wrongC_ok.1 h0
 have HK:=hid (right_few R)
 have m1:=R.h1
 have m2:=R.h2
 rcases force_ways s c.h with ⟨h1,H⟩|⟨h1,h2,h3,h4,H⟩|⟨h1,h2,h3,h4,H⟩
 ·have HW:=hid (forceC_range h0 H.out)
  clear h0 R
  generalize wrongC c=r at*
  go_wp2_with (go_at_call 172;refine (isSum_any _ _).mono ?_;rintro e w2 ⟨rfl,rfl⟩;rw[h1])
  refine bodyPost_ret (v:=.tuple #[.agg #[.int .i64 0,.int .i64 0,.int .i64 0,.int .i64 0,.int .i64 0,.slice none 0 0],.int .i64 3]) (by simp[results,Tryz.results162,go_sem,R0,R1,R2,R3,R4,R5];try rfl) rfl ?_
  unfold AnswersO
  rw[HW.out]
  refine ⟨none,0,rfl,lies_nil _,Or.inl (past_none _),?_⟩
  repeat refine Below.setCell ?_ (by simp) _
  exact T1.bel
 ·have HW:=hid (forceC_range h0 H.out)
  clear h0 R
  generalize wrongC c=r at*
  go_wp2_with (go_at_call 172;refine (isSum_any _ _).mono ?_;rintro e w2 ⟨rfl,rfl⟩;rw[h1])
  refine bodyPost_ret (v:=.tuple #[.agg #[.int .i64 0,.int .i64 0,.int .i64 0,.int .i64 0,.int .i64 0,.slice none 0 0],.int .i64 3]) (by simp[results,Tryz.results162,go_sem,R0,R1,R2,R3,R4,R5];try rfl) rfl ?_
  unfold AnswersO
  rw[HW.out]
  refine ⟨none,0,rfl,lies_nil _,Or.inl (past_none _),?_⟩
  repeat refine Below.setCell ?_ (by simp) _
  exact T1.bel
 ·have HW:=hid (forceC_ok h0 H.out)
  clear h0 R
  generalize wrongC c=r at*
  go_wp2_with fail
  refine (isSum_any _ _).mono ?_
  rintro e w2 ⟨rfl,rfl⟩
  rw[h1]
  go_wp2_with fail
  refine (own_any c a cap _ T1.box.lies HK.out).mono ?_
  rintro e w2 ⟨a',cap',rfl,hl',hp',hb2⟩
  unfold cv
  have T2:=T1.on hb2
  have hp2:Past (w.heap.size+2) a':=past_mono hp' T1.lt
  clear C0 C1 C2 C3 C4 C5 F0 F1 F2 F3 F4 F5 R0 R1 R2 R3 R4 R5 E0 E1 E2 E3 E4 E5 T1 hb2
  obtain ⟨C0,C1,C2,C3,C4,C5⟩:=T2.box.cells
  obtain ⟨F0,F1,F2,F3,F4,F5⟩:=co_free T2.box.block
  go_upto_region 7 with fail
  have T3:=T2.put c a' cap' hl' hp2
  generalize (((((w2.setCell ⟨w.heap.size,0,none⟩ (.int .i64 c.m)).setCell ⟨w.heap.size,1,none⟩ (.int .i64 c.h)).setCell ⟨w.heap.size,2,none⟩ (.int .i64 c.p.t)).setCell ⟨w.heap.size,3,none⟩ (.int .i64 c.p.c)).setCell ⟨w.heap.size,4,none⟩ (.int .i64 c.p.s)).setCell ⟨w.heap.size,5,none⟩ (.slice a' c.u.length cap')=w3 at*
  clear C0 C1 C2 C3 C4 C5 F0 F1 F2 F3 F4 F5 T2
  obtain ⟨C0,C1,C2,C3,C4,C5⟩:=T3.box.cells
  obtain ⟨F0,F1,F2,F3,F4,F5⟩:=co_free T3.box.block
  obtain ⟨R0,R1,R2,R3,R4,R5⟩:=co_cells T3.res
  obtain ⟨E0,E1,E2,E3,E4,E5⟩:=co_free T3.res
  go_wp2
  refine bodyPost_ret (v:=.tuple #[.agg #[.int .i64 c.m,.int .i64 (c.h+s),.int .i64 c.p.t,.int .i64 c.p.c,.int .i64 c.p.s,.slice a' c.u.length cap'],.int .i64 0]) (by simp[results,Tryz.results162,go_sem,R0,R1,R2,R3,R4,R5];try rfl) rfl ?_
  unfold AnswersO
  rw[HW.out]
  refine ⟨a',cap',rfl,?_,Or.inl (past_mono hp2 (by omega)),?_⟩
  ·repeat refine Lies.set ?_ hp2 (by simp) _
   exact T3.box.lies
  ·repeat refine Below.setCell ?_ (by simp) _
   exact T3.bel
theorem Two.list {w W:World}{c:Ca}{a:Option Addr}{cap:Nat}(h:Two w c a cap W) (u':List (Int ×Int)) (a':Option Addr) (cap':Nat) (hl:Lies W a' cap' u') (hp:Past (w.heap.size +2) a'):
  Two w ⟨c.m,c.h,c.p,u'⟩ a' cap' (W.setCell ⟨w.heap.size,5,none⟩ (.slice a' u'.length cap')):=by
 refine ⟨h.bel.setCell (Nat.le_refl _) _,⟨?_,hl.set hp (by simp) _⟩,?_⟩
 ·have hb:=h.box.block
  unfold co at hb⊢
  exact heap_setCell_same _ _ 5 _ _ (.slice a' u'.length cap') hb
 ·rw[heap_setCell_other _ _ _ _ (by simp)];exact h.res
theorem allow_ways (s t:Int):
  (isOne s=false∧Hid (s <1∨1000000<s∨t<0∨1000000<t))∨(isOne s=true∧t<0∧Hid (s <1∨1000000<s∨t<0∨1000000<t))∨
  (isOne s=true∧0≤t∧1000000<t∧Hid (s<1∨1000000<s∨t<0∨1000000<t))∨
  (isOne s=true∧0≤t∧t≤1000000∧1≤s∧s≤1000000∧Hid (¬(s <1∨1000000<s∨t<0∨1000000<t))):=by
 cases h1:isOne s with
 |false=>exact Or.inl ⟨rfl,by have:= isOne_false.1 h1;unfold Hid;omega⟩
 |true=>
  obtain ⟨h2,h3⟩:=isOne_true.1 h1
  by_cases h4:t<0
  ·exact Or.inr (Or.inl ⟨rfl,h4,by unfold Hid;omega⟩)
  by_cases h5:1000000<t
  ·exact Or.inr (Or.inr (Or.inl ⟨rfl,by omega,h5,by unfold Hid;omega⟩))
  ·exact Or.inr (Or.inr (Or.inr ⟨rfl,by omega,by omega,h2,h3,by unfold Hid;omega⟩))
theorem lies_answers{w w':World}{r:List (Int×Int)×Int}{e:Ending}(h:Answers w r e w'):∃a cap,e=.returned (.tuple #[.slice a r.1.length cap,.int .i64 r.2])∧Lies w' a cap r.1∧Past w.heap.size a∧Below w.heap.size w w':=by
 obtain ⟨v,he,ho,hb⟩:=h
 obtain ⟨a,cap,rfl,hl,hp⟩:=lies_of_owns ho
 exact ⟨a,cap,he,hl,hp,hb⟩
def AnswersW (w:World) (r:Ca×Int) (e:Ending) (w':World):Prop:=
 ∃a cap,e=.returned (.tuple #[cv r.1 a cap,.int .i64 r.2])∧Lies w' a cap r.1.u∧Past w.heap.size a∧Below w.heap.size w w'
theorem allow_new (c:Ca) (a:Option Addr) (cap:Nat) (s t:Int) (w:World) (hL:Lies w a cap c.u):
  Calls Tryz.prog 155 #[cv c a cap,.int .i64 s,.int .i64 t] w (AnswersW w (allowC c s t)):=by
 have T0:=two_new hL
 unfold cv
 go_enter Tryz.func155,Tryz.ntmps155
 go_wp2_with fail
 refine (cwrong_any c a cap _ (two_new hL).box.lies).mono ?_
 rintro e w1 ⟨rfl,hb1⟩
 have T1:=T0.on hb1
 clear T0 hb1
 obtain ⟨C0,C1,C2,C3,C4,C5⟩:=T1.box.cells
 obtain ⟨R0,R1,R2,R3,R4,R5⟩:=co_cells T1.res
 obtain ⟨E0,E1,E2,E3,E4,E5⟩:=co_free T1.res
 by_cases h0:wrongC c=0
 rotate_left
 ·have HW:=hid (allowC_wrong (s:=s) (t:=t) h0)
  have hne:(wrongC c !=0)=true:=by simpa using h0
  clear h0
  generalize wrongC c=r at*
  go_wp2
  refine bodyPost_ret (v:=.tuple #[.agg #[.int .i64 0,.int .i64 0,.int .i64 0,.int .i64 0,.int .i64 0,.slice none 0 0],.int .i64 r]) (by simp[results,Tryz.results155,go_sem,R0,R1,R2,R3,R4,R5];try rfl) rfl ?_
  unfold AnswersW
  rw[HW.out]
  refine ⟨none,0,rfl,lies_nil _,past_none _,?_⟩
  repeat refine Below.setCell ?_ (by simp) _
  exact T1.bel
 have hne:(wrongC c !=0)=false:=by simpa using h0
 have R:=wrongC_ok.1 h0
 have m1:=R.h1
 have m2:=R.h2
 have m3:=R.m1
 have m4:=R.m2
 clear R
 rcases allow_ways s t with ⟨h1,H⟩|⟨h1,h2,H⟩|⟨h1,h2,h3,H⟩|⟨h1,h2,h3,h4,h5,H⟩
 ·have HW:=hid (allowC_range h0 H.out)
  clear h0
  generalize wrongC c=r at*
  go_wp2_with (go_at_call 172;refine (isSum_any _ _).mono ?_;rintro e w2 ⟨rfl,rfl⟩;rw[h1])
  refine bodyPost_ret (v:=.tuple #[.agg #[.int .i64 0,.int .i64 0,.int .i64 0,.int .i64 0,.int .i64 0,.slice none 0 0],.int .i64 3]) (by simp[results,Tryz.results155,go_sem,R0,R1,R2,R3,R4,R5];try rfl) rfl ?_
  unfold AnswersW
  rw[HW.out]
  refine ⟨none,0,rfl,lies_nil _,past_none _,?_⟩
  repeat refine Below.setCell ?_ (by simp) _
  exact T1.bel
 ·have HW:=hid (allowC_range h0 H.out)
  clear h0
  generalize wrongC c=r at*
  go_wp2_with (go_at_call 172;refine (isSum_any _ _).mono ?_;rintro e w2 ⟨rfl,rfl⟩;rw[h1])
  refine bodyPost_ret (v:=.tuple #[.agg #[.int .i64 0,.int .i64 0,.int .i64 0,.int .i64 0,.int .i64 0,.slice none 0 0],.int .i64 3]) (by simp[results,Tryz.results155,go_sem,R0,R1,R2,R3,R4,R5];try rfl) rfl ?_
  unfold AnswersW
  rw[HW.out]
  refine ⟨none,0,rfl,lies_nil _,past_none _,?_⟩
  repeat refine Below.setCell ?_ (by simp) _
  exact T1.bel
 ·have HW:=hid (allowC_range h0 H.out)
  clear h0
  generalize wrongC c=r at*
  go_wp2_with (go_at_call 172;refine (isSum_any _ _).mono ?_;rintro e w2 ⟨rfl,rfl⟩;rw[h1])
  refine bodyPost_ret (v:=.tuple #[.agg #[.int .i64 0,.int .i64 0,.int .i64 0,.int .i64 0,.int .i64 0,.slice none 0 0],.int .i64 3]) (by simp[results,Tryz.results155,go_sem,R0,R1,R2,R3,R4,R5];try rfl) rfl ?_
  unfold AnswersW
  rw[HW.out]
  refine ⟨none,0,rfl,lies_nil _,past_none _,?_⟩
  repeat refine Below.setCell ?_ (by simp) _
  exact T1.bel
 have HF:=hid (allowC_funds h0 H.out)
 have HA:=hid (allowC_add h0 H.out)
 have HO:=hid (allowC_ok h0 H.out)
 clear h0
 generalize wrongC c=r at*
 go_wp2_with fail
 refine (isSum_any _ _).mono ?_
 rintro e w2 ⟨rfl,rfl⟩
 rw[h1]
 go_wp2_with fail
 refine (free_any c a cap _ m3 m4 m1 m2).mono ?_
 rintro e w2 ⟨rfl,hb2⟩
 have T2:=T1.on hb2
 clear C0 C1 C2 C3 C4 C5 R0 R1 R2 R3 R4 R5 E0 E1 E2 E3 E4 E5 T1 hb2
 obtain ⟨C0,C1,C2,C3,C4,C5⟩:=T2.box.cells
 obtain ⟨R0,R1,R2,R3,R4,R5⟩:=co_cells T2.res
 obtain ⟨E0,E1,E2,E3,E4,E5⟩:=co_free T2.res
 by_cases hq:c.m-c.h<s
 ·have HW:=hid (HF.out (by omega))
  clear HF HA HO
  go_wp2
  refine bodyPost_ret (v:=.tuple #[.agg #[.int .i64 0,.int .i64 0,.int .i64 0,.int .i64 0,.int .i64 0,.slice none 0 0],.int .i64 10]) (by simp[results,Tryz.results155,go_sem,R0,R1,R2,R3,R4,R5];try rfl) rfl ?_
  unfold AnswersW
  rw[HW.out]
  refine ⟨none,0,rfl,lies_nil _,past_none _,?_⟩
  repeat refine Below.setCell ?_ (by simp) _
  exact T2.bel
 have HA:=hid (HA.out (by omega))
 have HO:=hid (HO.out (by omega))
 have hq':s≤c.m-c.h:=by omega
 clear HF hq
 go_wp2_with fail
 refine (add_any c.p a cap c.u (t,s) _ T2.box.lies.ents).mono ?_
 intro e w3 hA
 obtain ⟨a',cap',rfl,hl',hp',hb3⟩:=lies_answers hA
 have T3:=T2.on hb3
 have hp2:Past (w.heap.size +2) a':=past_mono hp' T2.lt
 clear C0 C1 C2 C3 C4 C5 R0 R1 R2 R3 R4 R5 E0 E1 E2 E3 E4 E5 T2 hb3 hA hp'
 obtain ⟨C0,C1,C2,C3,C4,C5⟩:=T3.box.cells
 obtain ⟨F0,F1,F2,F3,F4,F5⟩:=co_free T3.box.block
 obtain ⟨R0,R1,R2,R3,R4,R5⟩:=co_cells T3.res
 obtain ⟨E0,E1,E2,E3,E4,E5⟩:=co_free T3.res
 by_cases hz:(addU c.p c.u (t,s)).2=0
 rotate_left
 ·have HW:=hid (HA.out hz)
  have hz':((addU c.p c.u (t,s)).2 !=0)=true:=by simpa using hz
  clear HA HO hz
  generalize (addU c.p c.u (t,s)).2=r2 at*
  generalize (addU c.p c.u (t,s)).1=r1 at*
  go_wp2
  refine bodyPost_ret (v:=.tuple #[.agg #[.int .i64 0,.int .i64 0,.int .i64 0,.int .i64 0,.int .i64 0,.slice none 0 0],.int .i64 r2]) (by simp[results,Tryz.results155,go_sem,R0,R1,R2,R3,R4,R5];try rfl) rfl ?_
  unfold AnswersW
  rw[HW.out]
  refine ⟨none,0,rfl,lies_nil _,past_none _,?_⟩
  repeat refine Below.setCell ?_ (by simp) _
  exact T3.bel
 have HW:=hid (HO.out hz)
 have hz':((addU c.p c.u (t,s)).2 !=0)=false:=by simpa using hz
 clear HA HO hz
 generalize (addU c.p c.u (t,s)).2=r2 at*
 generalize (addU c.p c.u (t,s)).1=r1 at*
 go_upto_region 13 with fail
 have T4:=(T3.list r1 a' cap' hl' hp2).held (c.h+s) hp2
 generalize (w3.setCell ⟨w.heap.size,5,none⟩ (.slice a' r1.length cap')).setCell ⟨w.heap.size,1,none⟩ (.int .i64 (c.h +s))=w4 at*
 clear C0 C1 C2 C3 C4 C5 F0 F1 F2 F3 F4 F5 R0 R1 R2 R3 R4 R5 E0 E1 E2 E3 E4 E5 T3
 obtain ⟨C0,C1,C2,C3,C4,C5⟩:=T4.box.cells
 obtain ⟨R0,R1,R2,R3,R4,R5⟩:=co_cells T4.res
 obtain ⟨E0,E1,E2,E3,E4,E5⟩:=co_free T4.res
 go_wp2
 refine bodyPost_ret (v:=.tuple #[.agg #[.int .i64 c.m,.int .i64 (c.h+s),.int .i64 c.p.t,.int .i64 c.p.c,.int .i64 c.p.s,.slice a' r1.length cap'],.int .i64 0]) (by simp[results,Tryz.results155,go_sem,R0,R1,R2,R3,R4,R5];try rfl) rfl ?_
 unfold AnswersW
 rw[HW.out]
 refine ⟨a',cap',rfl,?_,past_mono hp2 (by omega),?_⟩
 ·repeat refine Lies.set ?_ hp2 (by simp) _
  exact T4.box.lies
 ·repeat refine Below.setCell ?_ (by simp) _
  exact T4.bel
theorem far_ways (a b:Int):
  (isT a=false∧Hid (far a b))∨(isT a=true∧isT b=false∧Hid (far a b))∨
  (isT a=true∧isT b=true∧-1000000000000≤a∧a≤1000000000000∧-1000000000000≤b∧b≤1000000000000∧Hid (¬ far a b)):=by
 cases h1:isT a with
 |false=>exact Or.inl ⟨rfl,by have:= isT_false.1 h1;unfold Hid far;omega⟩
 |true=>
  obtain ⟨h2,h3⟩:=isT_true.1 h1
  cases h4:isT b with
  |false=>exact Or.inr (Or.inl ⟨rfl,rfl,by have:= isT_false.1 h4;unfold Hid far;omega⟩)
  |true=>
   obtain ⟨h5,h6⟩:=isT_true.1 h4
   exact Or.inr (Or.inr ⟨rfl,rfl,h2,h3,h5,h6,by unfold Hid far;omega⟩)
theorem shift_all (c:Ca) (a:Option Addr) (cap:Nat) (dh dm:Int) (w:World) (hL:Lies w a cap c.u):
  Calls Tryz.prog 169 #[cv c a cap,.int .i64 dh,.int .i64 dm] w (AnswersO w a c.u (shiftC c dh dm)):=by
 have T0:=two_new hL
 unfold cv
 go_enter Tryz.func169,Tryz.ntmps169
 go_wp2_with fail
 refine (cwrong_any c a cap _ (two_new hL).box.lies).mono ?_
 rintro e w1 ⟨rfl,hb1⟩
 have T1:=T0.on hb1
 clear T0 hb1
 obtain ⟨C0,C1,C2,C3,C4,C5⟩:=T1.box.cells
 obtain ⟨F0,F1,F2,F3,F4,F5⟩:=co_free T1.box.block
 obtain ⟨R0,R1,R2,R3,R4,R5⟩:=co_cells T1.res
 obtain ⟨E0,E1,E2,E3,E4,E5⟩:=co_free T1.res
 by_cases h0:wrongC c=0
 rotate_left
 ·have HW:=hid (shiftC_wrong (a:=dh) (b:=dm) h0)
  have hne:(wrongC c !=0)=true:=by simpa using h0
  clear h0
  generalize wrongC c=r at*
  go_wp2
  refine bodyPost_ret (v:=.tuple #[.agg #[.int .i64 0,.int .i64 0,.int .i64 0,.int .i64 0,.int .i64 0,.slice none 0 0],.int .i64 r]) (by simp[results,Tryz.results169,go_sem,R0,R1,R2,R3,R4,R5];try rfl) rfl ?_
  unfold AnswersO
  rw[HW.out]
  refine ⟨none,0,rfl,lies_nil _,Or.inl (past_none _),?_⟩
  repeat refine Below.setCell ?_ (by simp) _
  exact T1.bel
 have hne:(wrongC c !=0)=false:=by simpa using h0
 have R:=wrongC_ok.1 h0
 have HK:=hid (right_few R)
 have m1:=R.h1
 have m2:=R.h2
 have m3:=R.m1
 have m4:=R.m2
 rcases far_ways dh dm with ⟨h1,H⟩|⟨h1,h2,H⟩|⟨h1,h2,h3,h4,h5,h6,H⟩
 ·have HW:=hid (shiftC_range h0 H.out)
  clear h0 R
  generalize wrongC c=r at*
  go_wp2_with (go_at_call 61;refine (isTotal_any _ _).mono ?_;rintro e w2 ⟨rfl,rfl⟩;rw[h1])
  refine bodyPost_ret (v:=.tuple #[.agg #[.int .i64 0,.int .i64 0,.int .i64 0,.int .i64 0,.int .i64 0,.slice none 0 0],.int .i64 3]) (by simp[results,Tryz.results169,go_sem,R0,R1,R2,R3,R4,R5];try rfl) rfl ?_
  unfold AnswersO
  rw[HW.out]
  refine ⟨none,0,rfl,lies_nil _,Or.inl (past_none _),?_⟩
  repeat refine Below.setCell ?_ (by simp) _
  exact T1.bel
 ·have HW:=hid (shiftC_range h0 H.out)
  clear h0 R
  generalize wrongC c=r at*
  go_wp2_with (go_at_call 61;refine (isTotal_any _ _).mono ?_;rintro e w2 ⟨rfl,rfl⟩;first|rw[h1]|rw[h2])
  refine bodyPost_ret (v:=.tuple #[.agg #[.int .i64 0,.int .i64 0,.int .i64 0,.int .i64 0,.int .i64 0,.slice none 0 0],.int .i64 3]) (by simp[results,Tryz.results169,go_sem,R0,R1,R2,R3,R4,R5];try rfl) rfl ?_
  unfold AnswersO
  rw[HW.out]
  refine ⟨none,0,rfl,lies_nil _,Or.inl (past_none _),?_⟩
  repeat refine Below.setCell ?_ (by simp) _
  exact T1.bel
 ·have HF:=hid (shiftC_funds h0 H.out)
  have HO:=hid (shiftC_ok h0 H.out)
  have HR:=hid (right_shift (a:=dh) (b:=dm) h0)
  clear h0 R
  generalize wrongC c=r at*
  go_wp2_with fail
  refine (isTotal_any _ _).mono ?_
  rintro e w2 ⟨rfl,rfl⟩
  rw[h1]
  go_wp2_with fail
  refine (isTotal_any _ _).mono ?_
  rintro e w2 ⟨rfl,rfl⟩
  rw[h2]
  go_wp2_with fail
  refine (own_any c a cap _ T1.box.lies HK.out).mono ?_
  rintro e w2 ⟨a',cap',rfl,hl',hp',hb2⟩
  unfold cv
  have T2:=T1.on hb2
  have hp2:Past (w.heap.size +2) a':=past_mono hp' T1.lt
  clear C0 C1 C2 C3 C4 C5 F0 F1 F2 F3 F4 F5 R0 R1 R2 R3 R4 R5 E0 E1 E2 E3 E4 E5 T1 hb2
  obtain ⟨C0,C1,C2,C3,C4,C5⟩:=T2.box.cells
  obtain ⟨F0,F1,F2,F3,F4,F5⟩:=co_free T2.box.block
  go_upto_region 7 with fail
  have T3:=T2.put c a' cap' hl' hp2
  generalize (((((w2.setCell ⟨w.heap.size,0,none⟩ (.int .i64 c.m)).setCell ⟨w.heap.size,1,none⟩ (.int .i64 c.h)).setCell ⟨w.heap.size,2,none⟩ (.int .i64 c.p.t)).setCell ⟨w.heap.size,3,none⟩ (.int .i64 c.p.c)).setCell ⟨w.heap.size,4,none⟩ (.int .i64 c.p.s)).setCell ⟨w.heap.size,5,none⟩ (.slice a' c.u.length cap')=w3 at*
  clear C0 C1 C2 C3 C4 C5 F0 F1 F2 F3 F4 F5 T2
  obtain ⟨C0,C1,C2,C3,C4,C5⟩:=T3.box.cells
  obtain ⟨F0,F1,F2,F3,F4,F5⟩:=co_free T3.box.block
  go_upto_region 9 with fail
  have T4:=(T3.held (c.h +dh) hp2).money (c.m +dm) hp2
  generalize (w3.setCell ⟨w.heap.size,1,none⟩ (.int .i64 (c.h +dh))).setCell ⟨w.heap.size,0,none⟩ (.int .i64 (c.m+dm))=w4 at*
  clear C0 C1 C2 C3 C4 C5 F0 F1 F2 F3 F4 F5 T3
  obtain ⟨C0,C1,C2,C3,C4,C5⟩:=T4.box.cells
  go_wp2_with fail
  refine (cwrong_any ⟨c.m+dm,c.h+dh,c.p,c.u⟩ a' cap' _ T4.box.lies).mono ?_
  rintro e w5 ⟨rfl,hb5⟩
  have T5:=T4.on hb5
  clear C0 C1 C2 C3 C4 C5 T4 hb5
  obtain ⟨C0,C1,C2,C3,C4,C5⟩:=T5.box.cells
  obtain ⟨R0,R1,R2,R3,R4,R5⟩:=co_cells T5.res
  obtain ⟨E0,E1,E2,E3,E4,E5⟩:=co_free T5.res
  by_cases hq:wrongC ⟨c.m+dm,c.h+dh,c.p,c.u⟩=0
  ·have HW:=hid (HO.out (HR.out.1 hq))
   have hne2:(wrongC ⟨c.m+dm,c.h+dh,c.p,c.u⟩!=0)=false:=by simpa using hq
   clear hq HO HF HR
   generalize wrongC ⟨c.m+dm,c.h+dh,c.p,c.u⟩=r2 at*
   go_wp2
   refine bodyPost_ret (v:=.tuple #[.agg #[.int .i64 (c.m+dm),.int .i64 (c.h+dh),.int .i64 c.p.t,.int .i64 c.p.c,.int .i64 c.p.s,.slice a' c.u.length cap'],.int .i64 0]) (by simp[results,Tryz.results169,go_sem,R0,R1,R2,R3,R4,R5];try rfl) rfl ?_
   unfold AnswersO
   rw[HW.out]
   refine ⟨a',cap',rfl,?_,Or.inl (past_mono hp2 (by omega)),?_⟩
   ·repeat refine Lies.set ?_ hp2 (by simp) _
    exact T5.box.lies
   ·repeat refine Below.setCell ?_ (by simp) _
    exact T5.bel
  ·have HW:=hid (HF.out (Classical.not_not.1 fun h=>hq (HR.out.2 h)))
   have hne2:(wrongC ⟨c.m+dm,c.h+dh,c.p,c.u⟩!=0)=true:=by simpa using hq
   clear hq HO HF HR
   generalize wrongC ⟨c.m+dm,c.h+dh,c.p,c.u⟩=r2 at*
   go_wp2
   refine bodyPost_ret (v:=.tuple #[.agg #[.int .i64 0,.int .i64 0,.int .i64 0,.int .i64 0,.int .i64 0,.slice none 0 0],.int .i64 10]) (by simp[results,Tryz.results169,go_sem,R0,R1,R2,R3,R4,R5];try rfl) rfl ?_
   unfold AnswersO
   rw[HW.out]
   refine ⟨none,0,rfl,lies_nil _,Or.inl (past_none _),?_⟩
   repeat refine Below.setCell ?_ (by simp) _
   exact T5.bel
end Go.Proofs.YtofcnebekmjdoaaGreatDoor
