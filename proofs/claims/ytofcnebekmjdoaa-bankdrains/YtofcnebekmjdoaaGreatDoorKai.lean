import Derived.Test.YtofcnebekmjdoaaGreatDoorKah
set_option maxHeartbeats 4000000
set_option maxRecDepth 100000
namespace Go.Proofs.YtofcnebekmjdoaaGreatDoor.St
open Go.RowKit Go.Proofs.YtofcnebekmjdoaaGreatDoor.Gn
structure Gi (w:World) (n:Int) (v1 v2:Value) (t:Ad) (W:World):Prop where
 bel:Below w.heap.size w W
 box:W.heap[w.heap.size]?=some (dob n v1 v2)
 tb:W.heap[w.heap.size+1]?=some (aob t)
 res:W.heap[w.heap.size+2]?=some (dob 0 (.slice none 0 0) (.slice none 0 0))
variable {w W W' : World} {n : Int} {v1 v2 : Value} {t : Ad}
theorem Gi.lt (h:Gi w n v1 v2 t W):w.heap.size+3≤W.heap.size:=lt_of_block h.res
theorem Gi.on3 (h:Gi w n v1 v2 t W) (hb:Below (w.heap.size +3) W W'):Gi w n v1 v2 t W':=
 ⟨h.bel.trans (hb.mono (by omega)),(hb.block _ (by omega)).trans h.box,(hb.block _ (by omega)).trans h.tb,(hb.block _ (by omega)).trans h.res⟩
theorem Gi.on (h:Gi w n v1 v2 t W) (hb:Below W.heap.size W W'):Gi w n v1 v2 t W':=h.on3 (hb.mono h.lt)
theorem gi_new (w:World) (n:Int) (v1 v2:Value) (t:Ad):Gi w n v1 v2 t (((w.alloc (dob n v1 v2)).alloc (aob t)).alloc (dob 0 (.slice none 0 0) (.slice none 0 0))):=by
 refine ⟨((below_alloc _ _).alloc (by simp) _).alloc (by simp;omega) _,?_,?_,heap_alloc_at _ _ _ (by simp)⟩
 ·rw[Below.heap_alloc _ _ _ (by simp;omega),Below.heap_alloc _ _ _ (by simp),heap_alloc_at _ _ _ rfl]
 ·rw[Below.heap_alloc _ _ _ (by simp),heap_alloc_at _ _ _ (by simp)]
theorem Gi.put (h:Gi w n v1 v2 t W) (n':Int) (u1 u2:Value):Gi w n' u1 u2 t (put3 W w.heap.size n' u1 u2):=
 ⟨put3_below h.bel _ (Nat.le_refl _) _ _ _,put3_same h.box _ _ _,(put3_other _ _ _ _ _ _ (by omega)).trans h.tb,(put3_other _ _ _ _ _ _ (by omega)).trans h.res⟩
theorem Gi.two (h:Gi w n v1 v2 t W) (u:Value):Gi w n v1 u t (W.setCell ⟨w.heap.size,2,none⟩ u):=by
 refine ⟨h.bel.setCell (by simp) _,?_,(heap_setCell_other _ _ _ _ (by simp)).trans h.tb,(heap_setCell_other _ _ _ _ (by simp)).trans h.res⟩
 have :=heap_setCell_same W w.heap.size 2 _ _ u h.box
 simpa[dob] using this
theorem bad_ret{r:Sd×Int}{x:Int}{w':World}(h:r=(zD,x)) (hb:Below w.heap.size w w'):AnswersD w r (.returned (.tuple #[.agg #[.int .i64 0,.slice none 0 0,.slice none 0 0],.int .i64 x])) w':=by
 rw[h];exact ⟨_,_,rfl,.nil,.nil,hb⟩
structure Two (W:World) (B:Nat) (v1:Value) (L1:List Int) (v2:Value) (L2:List Ad):Prop where
 r1:Row kI 3 W B v1 L1
 o1:L1≠[]→W.ownsRow B 3 kI.size v1 L1.length (kI.flat L1)
 r2:Row kA 123 W B v2 L2
 ap:Ap v1 v2
theorem Two.keep {B:Nat} {L1:List Int} {L2:List Ad} (h:Two W B v1 L1 v2 L2) (hs:W.heap.size≤W'.heap.size) (hk:∀k,B≤k→k<W.heap.size→W'.heap[k]?=W.heap[k]?):Two W' B v1 L1 v2 L2:=
 ⟨h.r1.keep hs fun k h1 h2=>hk k (h.r1.block_lt k h1).1 h2,fun hne=>own_keep (h.o1 hne) fun k h1=>hk k ((h.o1 hne).lt k h1).1 ((h.o1 hne).lt k h1).2,h.r2.keep hs fun k h1 h2=>hk k (h.r2.block_lt k h1).1 h2,h.ap⟩
theorem Two.below {B:Nat} {L1:List Int} {L2:List Ad}(h:Two W B v1 L1 v2 L2) (hb:Below W.heap.size W W'):Two W' B v1 L1 v2 L2:=h.keep hb.size fun k _ h2=>hb.block k h2
theorem Two.mono {B B':Nat} {L1:List Int} {L2:List Ad} (h:Two W B v1 L1 v2 L2) (hb:B'≤B):Two W B' v1 L1 v2 L2:=⟨h.r1.mono hb,fun hne=>own_mono (h.o1 hne) hb,h.r2.mono hb,h.ap⟩
theorem Two.set {B:Nat} {L1:List Int} {L2:List Ad}(h:Two W B v1 L1 v2 L2) (p:Addr) (hp:p.block<B) (u:Value):Two (W.setCell p u) B v1 L1 v2 L2:=h.keep (by simp) fun k h1 _=>heap_setCell_other _ _ _ _ (by omega)
theorem Two.put {B:Nat}{L1:List Int}{L2:List Ad}(h:Two W B v1 L1 v2 L2) (b:Nat) (hp:b<B) (n':Int) (u1 u2:Value):Two (put3 W b n' u1 u2) B v1 L1 v2 L2:=h.keep (by rw[put3_size];exact Nat.le_refl _) fun k h1 _=>put3_other _ _ _ _ _ _ (by omega)
theorem Two.grow {B:Nat} {L1:List Int} {L2:List Ad} (h:Two W B v1 L1 v2 L2) (hg:W.grownBy W' v2.ownBlock) {v':Value} {L':List Ad} (hr:Row kA 123 W' B v' L') (hat:∀k,v'.ownBlock=some k→v2.ownBlock=some k∨W.heap.size≤k):Two W' B v1 L1 v' L':=
 ⟨h.r1.grown hg fun k h1 h2=>h.ap k h1 h2,fun hne=>own_keep (h.o1 hne) fun k h1=>hg.block k ((h.o1 hne).lt k h1).2 (fun e=>h.ap k h1 e.symm),hr,fun k h1 h2=>by
  rcases hat k h2 with h3|h3
  ·exact h.ap k h1 h3
  ·have:= (h.r1.block_lt k h1).2;omega⟩
theorem Two.store {B:Nat}{L1:List Int}{L2:List Ad} (h:Two W B v1 L1 v2 L2){i:Nat} (hi:i<L1.length):
  ∃g cap,v1=.slice (some ⟨g,0,none⟩) L1.length cap∧B≤g∧g<W.heap.size∧W.cell? ⟨g,i,none⟩=some (.int .i64 (L1.getD i 0))∧W.frozen? ⟨g,i,none⟩=false∧
   ∀x,Two (W.setCell ⟨g,i,none⟩ (.int .i64 x)) B v1 (L1.set i x) v2 L2:=by
 have hne:L1≠[]:=by intro h0;subst h0;simp at hi
 obtain ⟨g,cap,rfl,hg,hlt,-,hc,hf,hs⟩:=own_put (h.o1 hne) hi
 refine ⟨g,cap,rfl,hg,hlt,hc,hf,fun x=>⟨?_,fun _=>hs x,?_,h.ap⟩⟩
 ·exact .own _ _ (hs x)
 ·exact Row.set_ne h.r2 _ (fun k hk e=>h.ap k (by rw [e];rfl) hk) _
theorem two_of_owned {s:Sd} {e:Ending}(h:Owned w s e W):∃u1 u2,e=.returned (dv s.cap u1 u2)∧Two W w.heap.size u1 s.used u2 s.adv∧Below w.heap.size w W:=by
 obtain ⟨u1,u2,he,r1,o1,r2,ap,hb⟩:=h
 exact ⟨u1,u2,he,⟨r1,o1,r2,ap⟩,hb⟩
theorem give_any (s:Sd) (v1 v2:Value) (t:Ad) (w:World) (h1:At kI w v1 s.used) (h2:At kA w v2 s.adv):
  Calls Tryz.prog 153 #[dv s.cap v1 v2,av t] w (AnswersD w (giveD s t)):=by
 have G0:=gi_new w s.cap v1 v2 t
 have hh1:=h1
 have hh2:=h2
 obtain ⟨a1,c1,rfl,hl1⟩:=h1
 obtain ⟨a2,c2,rfl,hl2⟩:=h2
 unfold dob aob at G0
 unfold dv av
 go_enter Tryz.func153,Tryz.ntmps153
 go_upto_region 1 with fail
 generalize ((w.alloc (.cells #[.int .i64 s.cap,.slice a1 s.used.length c1,.slice a2 s.adv.length c2] 38)).alloc (.cells #[.int .i64 t.c,.int .i64 t.s,.int .i64 t.m,.int .i64 t.t] 123)).alloc (.cells #[.int .i64 0,.slice none 0 0,.slice none 0 0] 38)=W0 at*
 obtain ⟨C0,C1,C2⟩:=dob_cells G0.box
 go_wp2_with fail
 refine (wrong_any s _ _ _ (hh1.below G0.bel) (hh2.below G0.bel)).mono ?_
 rintro e w1 ⟨rfl,hb1⟩
 have G1:=G0.on hb1
 clear C0 C1 C2 G0 hb1
 by_cases hw:wrongD s=0
 case neg=>
  have HG:=hid (give_bad (a:=t) hw)
  have hne:(wrongD s !=0)=true:=by simpa using hw
  clear hw
  generalize wrongD s=r at*
  obtain ⟨R0,R1,R2⟩:=dob_cells G1.res
  obtain ⟨E0,E1,E2⟩:=dob_free G1.res
  go_wp2
  refine bodyPost_ret (v:=.tuple #[.agg #[.int .i64 0,.slice none 0 0,.slice none 0 0],.int .i64 r]) (by simp[results,Tryz.results153,go_sem,R0,R1,R2];try rfl) rfl (bad_ret HG.out ?_)
  repeat refine Below.setCell ?_ (by simp<;>omega) _
  exact G1.bel
 case pos=>
  have R:=right_of hw
  have u8:=R.u8
  have a20:=R.a20
  have HW:=hid hw
  rw[hw]
  clear hw
  by_cases h20:s.adv.length=20
  ·have HG:=hid (give_many (a:=t) HW.out h20)
   have h20':((s.adv.length :Int)==20)=true:=by simp[h20]
   obtain ⟨C0,C1,C2⟩:=dob_cells G1.box
   obtain ⟨R0,R1,R2⟩:=dob_cells G1.res
   obtain ⟨E0,E1,E2⟩:=dob_free G1.res
   clear h20
   go_wp2
   refine bodyPost_ret (v:=.tuple #[.agg #[.int .i64 0,.slice none 0 0,.slice none 0 0],.int .i64 5]) (by simp[results,Tryz.results153,go_sem,R0,R1,R2];try rfl) rfl (bad_ret HG.out ?_)
   repeat refine Below.setCell ?_ (by simp<;>omega) _
   exact G1.bel
  have h20':((s.adv.length :Int)==20)=false:=by simp;omega
  by_cases hf:Fits t s.used.length
  case neg=>
   have HG:=hid (give_range HW.out h20 hf)
   have HF:=hid (fitsB_false hf)
   obtain ⟨C0,C1,C2⟩:=dob_cells G1.box
   obtain ⟨T0,T1,T2,T3⟩:=aob_cells G1.tb
   clear hf
   go_wp2_with fail
   refine (isAdvice_any t _ _).mono ?_
   rw[HF.out]
   rintro e w2 ⟨rfl,hb2⟩
   have G2:=G1.on hb2
   clear C0 C1 C2 T0 T1 T2 T3 G1 hb2
   obtain ⟨R0,R1,R2⟩:=dob_cells G2.res
   obtain ⟨E0,E1,E2⟩:=dob_free G2.res
   go_wp2
   refine bodyPost_ret (v:=.tuple #[.agg #[.int .i64 0,.slice none 0 0,.slice none 0 0],.int .i64 3]) (by simp[results,Tryz.results153,go_sem,R0,R1,R2];try rfl) rfl (bad_ret HG.out ?_)
   repeat refine Below.setCell ?_ (by simp<;>omega) _
   exact G2.bel
  case pos=>
   have HF:=hid (fitsB_true hf)
   have hff:=hid hf
   obtain ⟨C0,C1,C2⟩:=dob_cells G1.box
   obtain ⟨T0,T1,T2,T3⟩:=aob_cells G1.tb
   clear hf
   go_wp2_with fail
   refine (isAdvice_any t _ _).mono ?_
   rw[HF.out]
   rintro e w2 ⟨rfl,hb2⟩
   have G2:=G1.on hb2
   clear C0 C1 C2 T0 T1 T2 T3 G1 hb2
   have HGF:=hid (fun h=>give_funds HW.out h20 hff.out h)
   have HGO:=hid (fun h=>give_ok HW.out h20 hff.out h)
   obtain ⟨f1,f2,f3,f4,f5,f6,f7,f8⟩:=hff.out
   clear hff HF
   obtain ⟨tc,ts,tm,tt⟩:=t
   dsimp only at f1 f2 f3 f4 f5 f6 f7 f8
   obtain ⟨j,rfl⟩:∃j:Nat,tc=(j :Int):=⟨_,(Int.toNat_of_nonneg f1).symm⟩
   have hj:j<s.used.length:=by omega
   obtain ⟨b,off,rfl,hbl,e1⟩:=int_cell (hl1.below G2.bel) hj
   have hx:=(R.fit j hj).1
   have hx1:=(R.fit j hj).2
   have hx0:=(R.adv.small a20 (j :Int) s.adv.length).1
   rw[List.take_length] at hx0
   have hc2:=R.lim.2
   rw[←hx] at hx1 hx0
   clear hx
   unfold moreD at HGO
   dsimp only[Int.toNat_natCast] at HGF HGO
   go_upto_region 8 with fail
   go_cut[36] from 25 to 37 (fun v wc=>v=.bool (decide (s.cap<s.used.getD j 0+tm))∧Gi w s.cap (.slice (some ⟨b,off,none⟩) s.used.length c1) (.slice a2 s.adv.length c2) ⟨j,ts,tm,tt⟩ wc)
   case first=>
    obtain ⟨C0,C1,C2⟩:=dob_cells G2.box
    obtain ⟨T0,T1,T2,T3⟩:=aob_cells G2.tb
    generalize s.used.getD j 0=x at*
    go_quiet (fail)
    go_wp2_with fail
    go_meet
    exact ⟨rfl,G2.on (below_drewN (Below.refl _ _) _)⟩
   case rest=>
    obtain ⟨rfl,G3⟩:=hcut
    generalize wc=W3 at*
    clear G2 e1
    by_cases hfu:s.cap<s.used.getD j 0+tm
    ·have HG:=hid (HGF.out hfu)
     clear HGF HGO
     obtain ⟨R0,R1,R2⟩:=dob_cells G3.res
     obtain ⟨E0,E1,E2⟩:=dob_free G3.res
     go_wp2
     refine bodyPost_ret (v:=.tuple #[.agg #[.int .i64 0,.slice none 0 0,.slice none 0 0],.int .i64 10]) (by simp[results,Tryz.results153,go_sem,R0,R1,R2];try rfl) rfl (bad_ret HG.out ?_)
     repeat refine Below.setCell ?_ (by simp<;>omega) _
     exact G3.bel
    ·have HG:=hid (HGO.out (by omega))
     obtain ⟨O,hO⟩:∃O,Hid (O=s.adv++[(⟨j,ts,tm,tt⟩:Ad)]):=⟨_,rfl⟩
     rw[←hO.out] at HG
     clear HGF HGO
     obtain ⟨C0,C1,C2⟩:=dob_cells G3.box
     go_wp2_with fail
     refine (own_any s _ _ _ (hh1.below G3.bel) (hh2.below G3.bel) u8 a20).mono ?_
     rintro e w4 ho
     obtain ⟨x1,x2,rfl,hT,hb4⟩:=two_of_owned ho
     have G4:=G3.on hb4
     have hT4:=hT.mono G3.lt
     clear C0 C1 C2 G3 hT hb4 ho
     obtain ⟨b1,d1,rfl,-,-⟩:=row_at hT4.r1
     obtain ⟨b2,d2,rfl,-,-⟩:=row_at hT4.r2
     obtain ⟨C0,C1,C2⟩:=dob_cells G4.box
     obtain ⟨F0,F1,F2⟩:=dob_free G4.box
     unfold dv
     go_upto_region 11 with fail
     have G5:=G4.put s.cap (.slice b1 s.used.length d1) (.slice b2 s.adv.length d2)
     have hT5:=hT4.put w.heap.size (by omega) s.cap (.slice b1 s.used.length d1) (.slice b2 s.adv.length d2)
     unfold put3 at G5 hT5
     clear C0 C1 C2 F0 F1 F2 G4 hT4
     generalize ((w4.setCell ⟨w.heap.size,0,none⟩ (.int .i64 s.cap)).setCell ⟨w.heap.size,1,none⟩ (.slice b1 s.used.length d1)).setCell ⟨w.heap.size,2,none⟩ (.slice b2 s.adv.length d2)=W5 at*
     obtain ⟨C0,C1,C2⟩:=dob_cells G5.box
     obtain ⟨T0,T1,T2,T3⟩:=aob_cells G5.tb
     dsimp only at T0 T1 T2 T3
     have hz5:=G5.lt
     have hTa:=hT5.below (below_alloc W5 (aob ⟨j,ts,tm,tt⟩))
     have hGa:=G5.on (below_alloc W5 (aob ⟨j,ts,tm,tt⟩))
     have hAa:(W5.alloc (aob ⟨j,ts,tm,tt⟩)).heap[W5.heap.size]?=some (aob ⟨j,ts,tm,tt⟩):=heap_alloc_at _ _ _ rfl
     have hza:(W5.alloc (aob ⟨j,ts,tm,tt⟩)).heap.size=W5.heap.size+1:=by simp
     unfold aob at hTa hGa hAa hza
     go_wp2_with (at_builtin;refine wpList_append elemA _ rfl _ _ rfl (w.heap.size +3) _ _ rfl hTa.r2 (some ⟨W5.heap.size,0,none⟩) 1 1 [⟨j,ts,tm,tt⟩] rfl rfl (lies_one hAa rfl _) ?c3 ?c4 ?c5 ?_)
     case c3=>simp[maxLen];omega
     case c4=>first|omega|(simp;omega)
     case c5=>omega
     intro v6 w6 hrow6 hgrow6 hat6 _
     rw[←hO.out] at hrow6
     have hT6:=hTa.grow hgrow6 hrow6 (by simpa using hat6)
     have G6:=hGa.on3 (below_grown (Below.refl _ _) hgrow6 hTa.r2 (Nat.le_refl _) (by omega))
     clear C0 C1 C2 T0 T1 T2 T3 hTa hGa hAa hza G5 hT5 hgrow6 hrow6 hat6
     obtain ⟨b6,d6,rfl,-,-⟩:=row_at hT6.r2
     obtain ⟨C0,C1,C2⟩:=dob_cells G6.box
     obtain ⟨F0,F1,F2⟩:=dob_free G6.box
     go_upto_region 12 with fail
     have G7:=G6.two (.slice b6 O.length d6)
     have hT7:=hT6.set ⟨w.heap.size,2,none⟩ (by simp<;>omega) (.slice b6 O.length d6)
     clear C0 C1 C2 F0 F1 F2 G6 hT6
     generalize w6.setCell ⟨w.heap.size,2,none⟩ (.slice b6 O.length d6)=W7 at*
     go_cut[] from 46 to 56 (fun wc=>Gi w s.cap (.slice b1 s.used.length d1) (.slice b6 O.length d6) ⟨j,ts,tm,tt⟩ wc∧Two wc (w.heap.size +3) (.slice b1 s.used.length d1) (s.used.set j (s.used.getD j 0+tm)) (.slice b6 O.length d6) O)
     case first=>
      obtain ⟨g,cap',hv,hg,hgl,X0,X1,hst⟩:=hT7.store hj
      obtain ⟨rfl,-,-⟩:=Value.slice.inj hv
      obtain ⟨C0,C1,C2⟩:=dob_cells G7.box
      obtain ⟨T0,T1,T2,T3⟩:=aob_cells G7.tb
      have hst1:=hst (s.used.getD j 0+tm)
      have hG8:=G7.on3 ((Below.refl (w.heap.size +3) W7).setCell (show w.heap.size+3≤(⟨g,j,none⟩:Addr).block from hg) (.int .i64 (s.used.getD j 0+tm)))
      dsimp only at T0 T1 T2 T3
      clear hst hT7 G7 hv
      generalize s.used.getD j 0=x at*
      go_region
      all_goals
       go_wp2_with fail
       go_meet
       exact ⟨hG8.on (Below.refl _ _).drew,hst1.below (Below.refl _ _).drew⟩
     case rest=>
      obtain ⟨G8,hT8⟩:=hcut
      generalize wc=W8 at*
      clear G7 hT7
      obtain ⟨C0,C1,C2⟩:=dob_cells G8.box
      obtain ⟨R0,R1,R2⟩:=dob_cells G8.res
      obtain ⟨E0,E1,E2⟩:=dob_free G8.res
      go_wp2
      refine bodyPost_ret (v:=.tuple #[.agg #[.int .i64 s.cap,.slice b1 s.used.length d1,.slice b6 O.length d6],.int .i64 0]) (by simp[results,Tryz.results153,go_sem,R0,R1,R2];try rfl) rfl ?_
      rw[HG.out]
      refine ⟨_,_,rfl,?_,?_,?_⟩
      ·refine Row.mono (base:=w.heap.size+3) ?_ (by omega)
       repeat refine Row.set ?_ _ (by simp) _
       exact hT8.r1
      ·refine Row.mono (base:=w.heap.size+3) ?_ (by omega)
       repeat refine Row.set ?_ _ (by simp) _
       exact hT8.r2
      ·repeat refine Below.setCell ?_ (by simp<;>omega) _
       exact G8.bel
def clearD (s:Sd):Sd×List Ad×Int:=if wrongD s≠0 then (zD,[],wrongD s) else (⟨s.cap,List.replicate s.used.length 0,[]⟩,s.adv,0)
theorem clear_bad {s:Sd}(h:wrongD s≠0):clearD s=(zD,[],wrongD s):=by unfold clearD;rw [if_pos h]
theorem clear_ok {s:Sd} (h:wrongD s=0):clearD s=(⟨s.cap,List.replicate s.used.length 0,[]⟩,s.adv,0):=by unfold clearD;rw [if_neg (by simpa using h)]
theorem new_again {s:Sd}(r:Right s):newD s.cap s.used.length=(⟨s.cap,List.replicate s.used.length 0,[]⟩,0):=by
 have:= r.u8
 rw[new_ok (by omega) r.lim,Int.toNat_natCast]
def AnswersC (w:World) (r:Sd×List Ad×Int) (e:Ending) (w':World):Prop:=
 ∃v1 v2 v3,e=.returned (.tuple #[dv r.1.cap v1 v2,v3,.int .i64 r.2.2])∧Row kI 3 w' w.heap.size v1 r.1.used∧Row kA 123 w' w.heap.size v2 r.1.adv∧Row kA 123 w' w.heap.size v3 r.2.1∧Below w.heap.size w w'
theorem fieldStand (n:Int) (v1:Value) (a:Option Addr) (l c:Nat) (w:World):(Instr.field 38 (.agg #[.int .i64 n,v1,.slice a l c]) 2).run Tryz.prog w=.ok (.slice a l c) w:=by kernel_rfl
theorem clear_any (s:Sd) (v1 v2:Value) (w:World) (h1:At kI w v1 s.used) (h2:At kA w v2 s.adv):
    Calls Tryz.prog 139 #[dv s.cap v1 v2] w (AnswersC w (clearD s)):=by
  have O0:=ow_new w s.cap v1 v2
  have hh1:=h1
  have hh2:=h2
  obtain ⟨a1,c1,rfl,hl1⟩:=h1
  obtain ⟨a2,c2,rfl,hl2⟩:=h2
  unfold dob at O0
  unfold dv
  go_enter Tryz.func139,Tryz.ntmps139
  go_upto_region 1 with fail
  generalize (w.alloc (.cells #[.int .i64 s.cap,.slice a1 s.used.length c1,.slice a2 s.adv.length c2] 38)).alloc (.cells #[.int .i64 0,.slice none 0 0,.slice none 0 0] 38)=W0 at*
  obtain ⟨C0,C1,C2⟩:=dob_cells O0.box
  go_wp2_with fail
  refine (wrong_any s _ _ _ (hh1.below O0.bel) (hh2.below O0.bel)).mono ?_
  rintro e w1 ⟨rfl,hb1⟩
  have O1:=O0.on hb1
  clear C0 C1 C2 O0 hb1
  by_cases hw:wrongD s=0
  case neg=>
    have HG:=hid (clear_bad hw)
    have hne:(wrongD s !=0)=true:=by simpa using hw
    clear hw
    generalize wrongD s=r at*
    obtain ⟨R0,R1,R2⟩:=dob_cells O1.res
    obtain ⟨E0,E1,E2⟩:=dob_free O1.res
    go_wp2
    refine bodyPost_ret (v:=.tuple #[.agg #[.int .i64 0,.slice none 0 0,.slice none 0 0],.slice none 0 0,.int .i64 r]) (by simp[results,Tryz.results139,go_sem,R0,R1,R2];try rfl) rfl ?_
    rw[HG.out]
    refine ⟨_,_,_,rfl,.nil,.nil,.nil,?_⟩
    repeat refine Below.setCell ?_ (by simp<;>omega) _
    exact O1.bel
  case pos=>
    have R:=right_of hw
    have u8:=R.u8
    have a20:=R.a20
    have HG:=hid (clear_ok hw)
    have HN:=hid (new_again R)
    rw[hw]
    clear hw
    obtain ⟨C0,C1,C2⟩:=dob_cells O1.box
    go_wp2_with fail
    refine (new_any _ _ _).mono ?_
    rw[HN.out]
    rintro e w2 ⟨n1,n2,rfl,hr1,hr2,hb2⟩
    have O2:=O1.on hb2
    have hz1:=O1.lt
    have hr1:=hr1.mono (base':=w.heap.size+2) (by omega)
    have hr2:=hr2.mono (base':=w.heap.size+2) (by omega)
    clear C0 C1 C2 O1 hb2
    obtain ⟨b1,d1,rfl,-,-⟩:=row_at hr1
    obtain ⟨b2,d2,rfl,-,-⟩:=row_at hr2
    dsimp only[List.length_replicate,List.length_nil,dv] at hr1 hr2⊢
    have O3:=O2.on (below_alloc w2 (dob s.cap (.slice b1 s.used.length d1) (.slice b2 0 d2)))
    have hE:(w2.alloc (dob s.cap (.slice b1 s.used.length d1) (.slice b2 0 d2))).heap[w2.heap.size]?=some (dob s.cap (.slice b1 s.used.length d1) (.slice b2 0 d2)):=heap_alloc_at _ _ _ rfl
    have hr3:=hr1.alloc (dob s.cap (.slice b1 s.used.length d1) (.slice b2 0 d2))
    have hr4:=hr2.alloc (dob s.cap (.slice b1 s.used.length d1) (.slice b2 0 d2))
    have hz2:=O2.lt
    unfold dob at O3 hE hr3 hr4
    clear hr1 hr2
    go_upto_region 5 with fail
    generalize w2.alloc (.cells #[.int .i64 s.cap,.slice b1 s.used.length d1,.slice b2 0 d2] 38)=W3 at*
    clear O2
    generalize w2.heap.size=E at*
    obtain ⟨C0,C1,C2⟩:=dob_cells O3.box
    obtain ⟨D0,D1,D2⟩:=dob_cells hE
    have hfd:=fieldStand
    go_region_with (go_at_call 163;refine (own_any s _ _ _ (hh1.below O3.bel.drew) (hh2.below O3.bel.drew) u8 a20).mono ?_
                    rintro e w4 ⟨u1,u2,rfl,-,-,hu2,-,hb4⟩
                    have hb4:Below W3.heap.size W3 w4:=((Below.refl _ _).drew).trans hb4
                    have O4:=O3.on hb4
                    have hE4:=(hb4.block _ (lt_of_block hE)).trans hE
                    have hr5:=hr3.below hb4
                    have hr6:=hr4.below hb4
                    have hu4:Row kA 123 w4 (w.heap.size +2) u2 s.adv:=hu2.mono O3.lt
                    obtain ⟨x2,y2,rfl,-,-⟩:=row_at hu4
                    obtain ⟨R0,R1,R2⟩:=dob_cells O4.res
                    obtain ⟨E0,E1,E2⟩:=dob_free O4.res
                    obtain ⟨D0',D1',D2'⟩:=dob_cells hE4
                    unfold dv)
    all_goals
      go_wp2
      refine bodyPost_ret (v:=.tuple #[.agg #[.int .i64 s.cap,.slice b1 s.used.length d1,.slice b2 0 d2],.slice x2 s.adv.length y2,.int .i64 0]) (by simp[results,Tryz.results139,go_sem,R0,R1,R2];try rfl) rfl ?_
      rw[HG.out]
      refine ⟨_,_,_,rfl,?_,?_,?_,?_⟩
      · refine Row.mono (base:=w.heap.size+2) ?_ (by omega)
        repeat refine Row.set ?_ _ (by simp) _
        simpa using hr5
      · refine Row.mono (base:=w.heap.size+2) ?_ (by omega)
        repeat refine Row.set ?_ _ (by simp) _
        exact hr6
      · refine Row.mono (base:=w.heap.size+2) ?_ (by omega)
        repeat refine Row.set ?_ _ (by simp) _
        exact hu4
      · repeat refine Below.setCell ?_ (by simp<;>omega) _
        exact O4.bel
end Go.Proofs.YtofcnebekmjdoaaGreatDoor.St
