import Derived.Deep.OwnRows
import Derived.Test.YtofcnebekmjdoaaGreatDoorKaf
set_option maxHeartbeats 4000000
set_option maxRecDepth 100000
namespace Go.Proofs.YtofcnebekmjdoaaGreatDoor.Po
open Go.RowKit Go.Proofs.YtofcnebekmjdoaaGreatDoor.Gn
def AnswersS (w:World) (r:Se×Int) (e:Ending) (w':World):Prop:=
 ∃v,e=.returned (.tuple #[.agg #[.int .i64 r.1.sent,v],.int .i64 r.2])∧Row kT 64 w' w.heap.size v r.1.kept∧Below w.heap.size w w'
structure Pu (w:World) (s:Se) (a:Option Addr) (cap:Nat) (t:Tr) (W:World):Prop where
 bel:Below w.heap.size w W
 box:W.heap[w.heap.size]?=some (so s a cap)
 tb:W.heap[w.heap.size+1]?=some (tob t)
 res:W.heap[w.heap.size+2]?=some (so zeroS none 0)
theorem Pu.on {w:World} {s:Se} {a:Option Addr} {cap:Nat} {t:Tr} {W W':World}(h:Pu w s a cap t W) (hb:Below W.heap.size W W'):Pu w s a cap t W':=
 ⟨h.bel.trans (hb.mono h.bel.size),(hb.block _ (lt_of_block h.box)).trans h.box,(hb.block _ (lt_of_block h.tb)).trans h.tb,(hb.block _ (lt_of_block h.res)).trans h.res⟩
theorem Pu.lt {w:World} {s:Se} {a:Option Addr} {cap:Nat} {t:Tr} {W:World} (h:Pu w s a cap t W):w.heap.size+2<W.heap.size:=lt_of_block h.res
theorem pu_new {w:World}(s:Se) (a:Option Addr) (cap:Nat) (t:Tr):Pu w s a cap t (((w.alloc (so s a cap)).alloc (tob t)).alloc (so zeroS none 0)):=by
 refine ⟨((below_alloc _ _).alloc (by simp) _).alloc (by simp;omega) _,?_,?_,heap_alloc_at _ _ _ (by simp)⟩
 ·rw[Below.heap_alloc _ _ _ (by simp;omega),Below.heap_alloc _ _ _ (by simp),heap_alloc_at _ _ _ rfl]
 ·rw[Below.heap_alloc _ _ _ (by simp),heap_alloc_at _ _ _ (by simp)]
theorem tob_free {W:World}{b:Nat}{t:Tr}(hb:W.heap[b]?=some (tob t)):
  W.frozen? ⟨b,0,none⟩=false∧W.frozen? ⟨b,1,none⟩=false∧W.frozen? ⟨b,2,none⟩=false∧W.frozen? ⟨b,3,none⟩=false:=by
 unfold tob at hb
 refine ⟨?_,?_,?_,?_⟩<;>simp[World.frozen?,hb]
theorem put_bad (s:Se) (a:Option Addr) (cap:Nat) (t:Tr) (w:World) (hL:Lies kT w a cap s.kept) (h0:(wrongS s).1≠0):
  Calls Tryz.prog 176 #[sv s a cap,tv t] w (AnswersS w (putS s t)):=by
 have P0:=pu_new (w:=w) s a cap t
 have hL0:=hL.below P0.bel
 have HP:=hid (putS_bad (t:=t) h0)
 have hne:((wrongS s).1 !=0)=true:=by simpa using h0
 unfold sv tv
 go_enter Tryz.func176,Tryz.ntmps176
 go_wp2_with fail
 refine (wrong_any s a cap _ hL0).mono ?_
 rintro e w1 ⟨rfl,hb1⟩
 have P1:=P0.on hb1
 clear P0 hb1 h0 hL0
 generalize (wrongS s).1=r1 at*
 generalize (wrongS s).2=r2 at*
 go_upto_region 3 with fail
 have P2:=P1.on (below_alloc w1 (.cells #[.int .i64 r1,.int .i64 r2] 47))
 have hF:(w1.alloc (.cells #[.int .i64 r1,.int .i64 r2] 47)).heap[w1.heap.size]?=some (.cells #[.int .i64 r1,.int .i64 r2] 47):=heap_alloc_at _ _ _ rfl
 have hl:=P1.lt
 clear P1
 generalize w1.alloc (.cells #[.int .i64 r1,.int .i64 r2] 47)=W at*
 obtain ⟨R0,R1⟩:=so_cells P2.res
 obtain ⟨E0,E1⟩:=so_free P2.res
 obtain ⟨G0,G1,-,-⟩:=fault_cells hF
 generalize w1.heap.size=f at*
 have hn1:w.heap.size+2≠f:=by omega
 have hn2:f≠w.heap.size+2:=by omega
 go_region
 all_goals
  go_wp2
  refine bodyPost_ret (v:=.tuple #[.agg #[.int .i64 0,.slice none 0 0],.int .i64 r1]) (by simp [results,Tryz.results176,go_sem,R0,R1];try rfl) rfl ?_
  unfold AnswersS
  rw [HP.out]
  refine ⟨.slice none 0 0,rfl,.nil,?_⟩
  refine Below.drew ?_
  repeat refine Below.setCell ?_ (by simp<;>omega) _
  exact P2.bel
theorem Pu.num {w:World}{s:Se}{a:Option Addr}{cap:Nat}{t:Tr}{W:World} (h:Pu w s a cap t W) (n:Int):Pu w s a cap ⟨n,t.k,t.a,t.s⟩ (W.setCell ⟨w.heap.size+1,0,none⟩ (.int .i64 n)):=by
 refine ⟨h.bel.setCell (by simp) _,(heap_setCell_other _ _ _ _ (by simp)).trans h.box,?_,(heap_setCell_other _ _ _ _ (by simp)).trans h.res⟩
 have :=heap_setCell_same W (w.heap.size+1) 0 _ _ (.int .i64 n) h.tb
 simpa [tob] using this
theorem Pu.kept {w:World}{s:Se}{a:Option Addr}{cap:Nat}{t:Tr}{W:World}(h:Pu w s a cap t W) (L:List Tr) (a':Option Addr) (cap':Nat):Pu w ⟨s.sent,L⟩ a' cap' t (W.setCell ⟨w.heap.size,1,none⟩ (.slice a' L.length cap')):=by
 refine ⟨h.bel.setCell (by simp) _,?_,(heap_setCell_other _ _ _ _ (by simp)).trans h.tb,(heap_setCell_other _ _ _ _ (by simp)).trans h.res⟩
 have :=heap_setCell_same W w.heap.size 1 _ _ (.slice a' L.length cap') h.box
 simpa[so] using this
theorem Pu.sent {w:World}{s:Se}{a:Option Addr}{cap:Nat}{t:Tr}{W:World} (h:Pu w s a cap t W) (n:Int):Pu w ⟨n,s.kept⟩ a cap t (W.setCell ⟨w.heap.size,0,none⟩ (.int .i64 n)):=by
 refine ⟨h.bel.setCell (by simp) _,?_,(heap_setCell_other _ _ _ _ (by simp)).trans h.tb,(heap_setCell_other _ _ _ _ (by simp)).trans h.res⟩
 have:= heap_setCell_same W w.heap.size 0 _ _ (.int .i64 n) h.box
 simpa [so] using this
theorem Row.set {K:Kind Tr} {e:TypeId} {w:World} {base:Nat} {v:Value} {L:List Tr} (h:Row K e w base v L) (p:Addr) (hp:p.block<base) (u:Value):Row K e (w.setCell p u) base v L:=
 h.keep (by simp) fun k hk _=>heap_setCell_other _ _ _ _ (by have:= (h.block_lt k hk).1;omega)
theorem put_good (s:Se) (a:Option Addr) (cap:Nat) (t:Tr) (w:World) (hL:Lies kT w a cap s.kept) (h0:(wrongS s).1=0):
    Calls Tryz.prog 176 #[sv s a cap,tv t] w (AnswersS w (putS s t)):=by
  have P0:=pu_new (w:=w) s a cap t
  have hL0:=hL.below P0.bel
  have HP1:=hid (putS_out (t:=t) h0)
  have HP2:=hid (putS_ok (t:=t) h0)
  have R:=wrongS_ok.1 h0
  have q1:=R.few
  have q2:0≤s.sent:=by have :=R.lo;omega
  have q3:=R.hi
  have hne:((wrongS s).1 !=0)=false:=by simpa using h0
  unfold sv tv
  go_enter Tryz.func176,Tryz.ntmps176
  go_wp2_with fail
  refine (wrong_any s a cap _ hL0).mono ?_
  rintro e w1 ⟨rfl,hb1⟩
  have P1:=P0.on hb1
  clear P0 hb1 h0 hL0
  generalize (wrongS s).1=r1 at*
  generalize (wrongS s).2=r2 at*
  go_upto_region 4 with fail
  have P2:=P1.on (below_alloc w1 (.cells #[.int .i64 r1,.int .i64 r2] 47))
  clear P1
  generalize w1.alloc (.cells #[.int .i64 r1,.int .i64 r2] 47)=W at*
  obtain ⟨B0,B1⟩:=so_cells P2.box
  obtain ⟨T0,T1,T2,T3⟩:=tob_cells P2.tb
  obtain ⟨G0,G1,G2,G3⟩:=tob_free P2.tb
  go_upto_region 5 with fail
  have P3:=P2.num (s.sent +1)
  clear B0 B1 T0 T1 T2 T3 G0 G1 G2 G3 P2
  generalize W.setCell ⟨w.heap.size+1,0,none⟩ (.int .i64 (s.sent +1))=W at*
  have hn:(⟨s.sent+1,t.k,t.a,t.s⟩:Tr)=nextT s t:=rfl
  rw[hn] at P3
  clear hn
  obtain ⟨O,hO⟩:∃O,Hid (O =s.kept++[nextT s t]):=⟨_,rfl⟩
  go_cut[] from 20 to 27 (fun wc=>∃a' cap',Pu w ⟨s.sent,O⟩ a' cap' (nextT s t) wc∧Row kT 64 wc (w.heap.size+3) (.slice a' O.length cap') O)
  case first=>
    have hLW:=hL.below P3.bel
    have hsz:=P3.lt
    have hsz0:w.heap.size<W.heap.size:=by omega
    obtain ⟨B0,B1⟩:=so_cells P3.box
    have BA:∀o,(W.alloc o).cell? ⟨w.heap.size,1,none⟩=some (.slice a s.kept.length cap):=fun o=>(World.cell?_alloc_past _ _ _ hsz0).trans B1
    obtain ⟨T0,T1,T2,T3⟩:=tob_cells P3.tb
    go_region_law (first
      | (refine step_append elemT _ rfl (.const (.slice none 0 0)) (.tmp 21) rfl W.heap.size (.slice none 0 0) [] rfl .nil a s.kept.length cap s.kept (by simp[Act.eval]) rfl hLW.drew (by simp[maxLen];omega) (by simp;omega) (Nat.le_refl _) ?_
         intro v1 w2 hown hgrow _ _
         have hb2:Below W.heap.size W w2:=below_grown (L:=[]) ((Below.refl _ _).drew) hgrow (.nil:Row kT 64 W.drew W.heap.size (.slice none 0 0) []) (Nat.le_refl _) (Nat.le_refl _)
         obtain ⟨T0',T1',T2',T3'⟩:=tob_cells (P3.on hb2).tb
         rw[List.nil_append] at hown
         clear hgrow)
      | (refine step_append elemT _ rfl (.const (.slice none 0 0)) (.tmp 21) rfl W.heap.size (.slice none 0 0) [] rfl .nil a s.kept.length cap s.kept (by simp[Act.eval]) rfl (hLW.alloc _).drew (by simp[maxLen];omega) (by simp;omega) (by show W.heap.size≤(W.heap.push _).size;simp) ?_
         intro v1 w2 hown hgrow _ _
         have hb2:Below W.heap.size W w2:=below_grown (L:=[]) ((below_alloc W _).drew) hgrow (.nil:Row kT 64 _ W.heap.size (.slice none 0 0) []) (Nat.le_refl _) (by show W.heap.size≤(W.heap.push _).size;simp)
         have hn2:=(hgrow.block W.heap.size (by show W.heap.size<(W.heap.push _).size;simp) (by simp[Value.ownBlock])).trans (heap_alloc_at W _ _ rfl)
         rw[List.nil_append] at hown
         clear hgrow)
      | (refine step_append elemT _ rfl (.tmp 22) (.tmp 24) rfl W.heap.size v1 s.kept (by simp[Act.eval]) (hown.alloc _) (some ⟨w2.heap.size,0,none⟩) 1 1 [nextT s t] (by simp[Act.eval]) rfl (lies_one (heap_alloc_at _ _ _ rfl) rfl _) (by simp[maxLen];omega) (by simp;omega) (by have :=hb2.size;simp;omega) ?_
         intro v3 w3 hown3 hgrow _ _
         have hb3:Below W.heap.size W w3:=below_grown (hb2.alloc hb2.size _) hgrow (hown.alloc _) (Nat.le_refl _) (by have :=hb2.size;simp;omega)
         have P4:=P3.on hb3
         rw[←hO.out] at hown3
         obtain ⟨a3,cap3,rfl,-,-,-⟩:=hown3.lies
         obtain ⟨C0,C1⟩:=so_cells P4.box
         obtain ⟨F0,F1⟩:=so_free P4.box
         clear hgrow hown hb2)
      | (refine step_append elemT _ rfl (.tmp 22) (.tmp 24) rfl W.heap.size v1 s.kept (by simp[Act.eval]) hown (some ⟨W.heap.size,0,none⟩) 1 1 [nextT s t] (by simp[Act.eval]) rfl (lies_one hn2 rfl _) (by simp[maxLen];omega) (by simp;omega) hb2.size ?_
         intro v3 w3 hown3 hgrow _ _
         have hb3:Below W.heap.size W w3:=below_grown hb2 hgrow hown (Nat.le_refl _) hb2.size
         have P4:=P3.on hb3
         rw[←hO.out] at hown3
         obtain ⟨a3,cap3,rfl,-,-,-⟩:=hown3.lies
         obtain ⟨C0,C1⟩:=so_cells P4.box
         obtain ⟨F0,F1⟩:=so_free P4.box
         clear hgrow hown hb2))
    all_goals (go_wp2_with fail;go_meet;exact ⟨a3,cap3,P4.kept _ a3 cap3,Row.set (hown3.mono (by omega)) ⟨w.heap.size,1,none⟩ (by simp<;>omega) _⟩)
  case rest=>
    obtain ⟨a',cap',P4,hown⟩:=hcut
    clear P3
    generalize wc=W4 at*
    have HO:Hid (outS s t=⟨s.sent+1,O⟩):=hid (by rw[hO.out];rfl)
    have hTn:(nextT s t).n=s.sent+1:=rfl
    obtain ⟨B0,B1⟩:=so_cells P4.box
    obtain ⟨F0,F1⟩:=so_free P4.box
    obtain ⟨T0,T1,T2,T3⟩:=tob_cells P4.tb
    rw[hTn] at T0
    go_upto_region 7 with fail
    have P5:=P4.sent (s.sent +1)
    have hown5:=Row.set hown ⟨w.heap.size,0,none⟩ (by simp<;>omega) (.int .i64 (s.sent +1))
    clear B0 B1 F0 F1 T0 T1 T2 T3 P4 hown
    generalize W4.setCell ⟨w.heap.size,0,none⟩ (.int .i64 (s.sent+1))=W5 at*
    have hl5:Lies kT W5 a' cap' O:=by
      obtain ⟨a3,cap3,h3,hl,-,-⟩:=hown5.lies
      obtain ⟨rfl,-,rfl⟩:=Value.slice.inj h3
      exact hl
    rw[←HO.out] at P5
    have hl6:Lies kT W5 a' cap' (outS s t).kept:=by rw[HO.out];exact hl5
    have hown6:Row kT 64 W5 (w.heap.size+3) (.slice a' (outS s t).kept.length cap') (outS s t).kept:=by rw[HO.out];exact hown5
    clear hl5 hown5 HO hTn hO
    generalize outS s t=o at*
    obtain ⟨B0,B1⟩:=so_cells P5.box
    go_wp2_with fail
    refine (wrong_any o a' cap' _ hl6).mono ?_
    rintro e w6 ⟨rfl,hb6⟩
    have P6:=P5.on hb6
    have hown7:=hown6.below hb6
    clear P5 hb6 hown6 hl6 B0 B1
    by_cases h0:(wrongS o).1=0
    · have HP:=hid (HP2.out h0)
      have hne2:((wrongS o).1 !=0)=false:=by simpa using h0
      clear h0 HP1 HP2
      generalize (wrongS o).1=x1 at*
      generalize (wrongS o).2=x2 at*
      have P7:=P6.on (below_alloc w6 (.cells #[.int .i64 x1,.int .i64 x2] 47))
      have hown8:=hown7.alloc (.cells #[.int .i64 x1,.int .i64 x2] 47)
      obtain ⟨B0,B1⟩:=so_cells P7.box
      obtain ⟨R0,R1⟩:=so_cells P7.res
      obtain ⟨E0,E1⟩:=so_free P7.res
      go_upto_region 10 with fail
      generalize w6.alloc (.cells #[.int .i64 x1,.int .i64 x2] 47)=W7 at*
      go_wp2
      refine bodyPost_ret (v:=.tuple #[.agg #[.int .i64 o.sent,.slice a' o.kept.length cap'],.int .i64 0]) (by simp[results,Tryz.results176,go_sem,R0,R1];try rfl) rfl ?_
      unfold AnswersS
      rw[HP.out]
      refine ⟨_,rfl,?_,?_⟩
      · refine Row.mono (base:=w.heap.size+3) ?_ (by omega)
        repeat refine Row.set ?_ _ (by simp) _
        exact hown8
      · repeat refine Below.setCell ?_ (by simp<;>omega) _
        exact P7.bel
    · have HP:=hid (HP1.out h0)
      have hne2:((wrongS o).1 !=0)=true:=by simpa using h0
      clear h0 HP1 HP2
      generalize (wrongS o).1=x1 at*
      generalize (wrongS o).2=x2 at*
      have P7:=P6.on (below_alloc w6 (.cells #[.int .i64 x1,.int .i64 x2] 47))
      have hF:(w6.alloc (.cells #[.int .i64 x1,.int .i64 x2] 47)).heap[w6.heap.size]?=some (.cells #[.int .i64 x1,.int .i64 x2] 47):=heap_alloc_at _ _ _ rfl
      have hl:=P6.lt
      go_upto_region 9 with fail
      generalize w6.alloc (.cells #[.int .i64 x1,.int .i64 x2] 47)=W7 at*
      obtain ⟨R0,R1⟩:=so_cells P7.res
      obtain ⟨E0,E1⟩:=so_free P7.res
      obtain ⟨G0,G1,-,-⟩:=fault_cells hF
      clear P6 hown7
      generalize w6.heap.size=f at*
      have hn1:w.heap.size+2≠f:=by omega
      have hn2:f≠w.heap.size+2:=by omega
      go_region
      all_goals
        go_wp2
        refine bodyPost_ret (v:=.tuple #[.agg #[.int .i64 0,.slice none 0 0],.int .i64 x1]) (by simp[results,Tryz.results176,go_sem,R0,R1];try rfl) rfl ?_
        unfold AnswersS
        rw[HP.out]
        refine ⟨.slice none 0 0,rfl,.nil,?_⟩
        refine Below.drew ?_
        repeat refine Below.setCell ?_ (by simp<;>omega) _
        exact P7.bel
theorem put_any (s:Se) (a:Option Addr) (cap:Nat) (t:Tr) (w:World) (hL:Lies kT w a cap s.kept):
  Calls Tryz.prog 176 #[sv s a cap,tv t] w (AnswersS w (putS s t)):=by
 by_cases h0:(wrongS s).1=0
 ·exact put_good s a cap t w hL h0
 ·exact put_bad s a cap t w hL h0
structure Bx (w:World) (s:Se) (a:Option Addr) (cap:Nat) (W:World):Prop where
 bel:Below w.heap.size w W
 box:W.heap[w.heap.size]?=some (so s a cap)
 res:W.heap[w.heap.size+1]?=some (so zeroS none 0)
theorem Bx.on {w:World} {s:Se} {a:Option Addr} {cap:Nat} {W W':World}(h:Bx w s a cap W) (hb:Below W.heap.size W W'):Bx w s a cap W':=
 ⟨h.bel.trans (hb.mono h.bel.size),(hb.block _ (lt_of_block h.box)).trans h.box,(hb.block _ (lt_of_block h.res)).trans h.res⟩
theorem Bx.lt {w:World} {s:Se} {a:Option Addr} {cap:Nat} {W:World} (h:Bx w s a cap W):w.heap.size+1<W.heap.size:=lt_of_block h.res
theorem bx_new{w:World}(s:Se) (a:Option Addr) (cap:Nat):Bx w s a cap ((w.alloc (so s a cap)).alloc (so zeroS none 0)):=by
 refine ⟨(below_alloc _ _).alloc (by simp) _,?_,heap_alloc_at _ _ _ (by simp)⟩
 rw[Below.heap_alloc _ _ _ (by simp),heap_alloc_at _ _ _ rfl]
theorem Bx.kept{w:World}{s:Se}{a:Option Addr}{cap:Nat}{W:World}(h:Bx w s a cap W) (L:List Tr) (a':Option Addr) (cap':Nat):Bx w ⟨s.sent,L⟩ a' cap' (W.setCell ⟨w.heap.size,1,none⟩ (.slice a' L.length cap')):=by
 refine ⟨h.bel.setCell (by simp) _,?_,(heap_setCell_other _ _ _ _ (by simp)).trans h.res⟩
 have:= heap_setCell_same W w.heap.size 1 _ _ (.slice a' L.length cap') h.box
 simpa[so] using this
theorem back_any (s:Se) (a:Option Addr) (cap:Nat) (seen:Int) (w:World) (hL:Lies kT w a cap s.kept):
    Calls Tryz.prog 160 #[sv s a cap,.int .i64 seen] w (AnswersS w (backS s seen)):=by
  have P0:=bx_new (w:=w) s a cap
  have hL0:=hL.below P0.bel
  unfold sv
  go_enter Tryz.func160,Tryz.ntmps160
  go_wp2_with fail
  refine (wrong_any s a cap _ hL0).mono ?_
  rintro e w1 ⟨rfl,hb1⟩
  have P1:=P0.on hb1
  clear P0 hb1 hL0
  by_cases h0:(wrongS s).1=0
  rotate_left
  · have HP:=hid (backS_bad (seen:=seen) h0)
    have hne:((wrongS s).1 !=0)=true:=by simpa using h0
    clear h0
    generalize (wrongS s).1=r1 at*
    generalize (wrongS s).2=r2 at*
    go_upto_region 3 with fail
    have P2:=P1.on (below_alloc w1 (.cells #[.int .i64 r1,.int .i64 r2] 47))
    have hF:(w1.alloc (.cells #[.int .i64 r1,.int .i64 r2] 47)).heap[w1.heap.size]?=some (.cells #[.int .i64 r1,.int .i64 r2] 47):=heap_alloc_at _ _ _ rfl
    have hl:=P1.lt
    clear P1
    generalize w1.alloc (.cells #[.int .i64 r1,.int .i64 r2] 47)=W at*
    obtain ⟨R0,R1⟩:=so_cells P2.res
    obtain ⟨E0,E1⟩:=so_free P2.res
    obtain ⟨G0,G1,-,-⟩:=fault_cells hF
    generalize w1.heap.size=f at*
    have hn1:w.heap.size+1≠f:=by omega
    have hn2:f≠w.heap.size+1:=by omega
    go_region
    all_goals
      go_wp2
      refine bodyPost_ret (v:=.tuple #[.agg #[.int .i64 0,.slice none 0 0],.int .i64 r1]) (by simp[results,Tryz.results160,go_sem,R0,R1];try rfl) rfl ?_
      unfold AnswersS
      rw[HP.out]
      refine ⟨.slice none 0 0,rfl,.nil,?_⟩
      refine Below.drew ?_
      repeat refine Below.setCell ?_ (by simp) _
      exact P2.bel
  have HP1:=hid (backS_range (seen:=seen) h0)
  have HP2:=hid (backS_ok (seen:=seen) h0)
  have R:=wrongS_ok.1 h0
  have q1:=R.few
  have hne:((wrongS s).1 !=0)=false:=by simpa using h0
  clear h0
  generalize (wrongS s).1=r1 at*
  generalize (wrongS s).2=r2 at*
  go_upto_region 4 with fail
  have P2:=P1.on (below_alloc w1 (.cells #[.int .i64 r1,.int .i64 r2] 47))
  clear P1
  generalize w1.alloc (.cells #[.int .i64 r1,.int .i64 r2] 47)=W at*
  obtain ⟨B0,B1⟩:=so_cells P2.box
  obtain ⟨R0,R1⟩:=so_cells P2.res
  obtain ⟨E0,E1⟩:=so_free P2.res
  by_cases h1:seen<0
  · have HP:=hid (HP1.out (Or.inl h1))
    clear HP1 HP2
    go_wp2
    refine bodyPost_ret (v:=.tuple #[.agg #[.int .i64 0,.slice none 0 0],.int .i64 3]) (by simp[results,Tryz.results160,go_sem,R0,R1];try rfl) rfl ?_
    unfold AnswersS
    rw[HP.out]
    refine ⟨.slice none 0 0,rfl,.nil,?_⟩
    repeat refine Below.setCell ?_ (by simp) _
    exact P2.bel
  have h1':0≤seen:=by omega
  by_cases h2:s.sent<seen
  · have HP:=hid (HP1.out (Or.inr h2))
    clear HP1 HP2 h1
    go_wp2
    refine bodyPost_ret (v:=.tuple #[.agg #[.int .i64 0,.slice none 0 0],.int .i64 3]) (by simp[results,Tryz.results160,go_sem,R0,R1];try rfl) rfl ?_
    unfold AnswersS
    rw[HP.out]
    refine ⟨.slice none 0 0,rfl,.nil,?_⟩
    repeat refine Below.setCell ?_ (by simp) _
    exact P2.bel
  have HP:=hid (HP2.out (by omega))
  have h2':seen≤s.sent:=by omega
  clear HP1 HP2 h1 h2 R0 R1 E0 E1
  go_upto_region 6 with fail
  have hsz0:w.heap.size<W.heap.size:=by have :=P2.lt;omega
  have hLW:=hL.below P2.bel
  have BA:∀o,(W.alloc o).cell? ⟨w.heap.size,1,none⟩=some (.slice a s.kept.length cap):=fun o=>(World.cell?_alloc_past _ _ _ hsz0).trans B1
  go_cut[] from 24 to 30 (fun wc=>∃a' cap',Bx w ⟨s.sent,those seen s.kept⟩ a' cap' wc∧Row kT 64 wc (w.heap.size +2) (.slice a' (those seen s.kept).length cap') (those seen s.kept))
  case first=>
    go_region_with (first
      |(go_at_call 178;refine (above_any seen _).mono ?_;rintro e w2 ⟨rfl,rfl⟩)
      | (go_at_call 177;refine (those_any a cap s.kept W.heap.size seen _ ?_ ?_ q1).mono ?_;exact (hLW.alloc _).drew;exact heap_alloc_at W _ _ rfl;rintro e w3 ⟨v3,rfl,hown3,hb3⟩
         have hb4:Below W.heap.size W w3:=((below_alloc W _).drew).trans (hb3.mono (by show W.heap.size≤(W.heap.push _).size;simp))
         have hown4:=hown3.mono (base':=W.heap.size) (by show W.heap.size≤(W.heap.push _).size;simp)
         obtain ⟨a3,cap3,rfl,-,-,-⟩:=hown3.lies
         have P4:=P2.on hb4
         obtain ⟨C0,C1⟩:=so_cells P4.box
         obtain ⟨F0,F1⟩:=so_free P4.box
         clear hb3 hb4))
    all_goals (go_wp2_with fail;go_meet;exact ⟨a3,cap3,P4.kept _ a3 cap3,Row.set (hown4.mono (base':=w.heap.size+2) (by have:= P2.lt;omega)) ⟨w.heap.size,1,none⟩ (by show w.heap.size<_;omega) _⟩)
  case rest=>
    obtain ⟨a',cap',P4,hown⟩:=hcut
    clear P2 B0 B1 BA hsz0 hLW
    generalize wc=W4 at*
    generalize those seen s.kept=O at*
    obtain ⟨B0,B1⟩:=so_cells P4.box
    obtain ⟨R0,R1⟩:=so_cells P4.res
    obtain ⟨E0,E1⟩:=so_free P4.res
    go_wp2
    refine bodyPost_ret (v:=.tuple #[.agg #[.int .i64 s.sent,.slice a' O.length cap'],.int .i64 0]) (by simp[results,Tryz.results160,go_sem,R0,R1];try rfl) rfl ?_
    unfold AnswersS
    rw[HP.out]
    refine ⟨_,rfl,?_,?_⟩
    · refine Row.mono (base:=w.heap.size+2) ?_ (by omega)
      repeat refine Row.set ?_ _ (by simp) _
      exact hown
    · repeat refine Below.setCell ?_ (by simp) _
      exact P4.bel
end Go.Proofs.YtofcnebekmjdoaaGreatDoor.Po
namespace Go.Proofs.YtofcnebekmjdoaaGreatDoor.Gn
open Go.RowKit
def kI:Kind Int where
 cells:=fun x=>[.int .i64 x]
 size:=1
 len:=fun _=>rfl
 one:=fun x u hu=>by simp at hu;subst hu;rfl
 pos:=by decide
theorem kI_flat (L:List Int):kI.flat L=L.map fun x=>Value.int .i64 x:=by
 induction L with
 |nil=>rfl
 |cons x r ih=>rw [kI.flat_cons,ih];rfl
theorem int_cell {w:World} {a:Option Addr} {cap:Nat} {L:List Int} (h:Lies kI w a cap L) {i:Nat} (hi:i<L.length):
  ∃b off,a=some ⟨b,off,none⟩∧b<w.heap.size∧w.cell? ⟨b,off+i,none⟩=some (.int .i64 (L.getD i 0)):=by
 obtain ⟨b,off,ha,hb,hc⟩:=h.elem (i:=i) (x:=L.getD i 0) (by simp[List.getD,hi])
 refine ⟨b,off,ha,hb,?_⟩
 have :=hc 0 _ rfl
 simpa[kI] using this
def Ints (w:World) (e:TypeId) (b:Nat) (L:List Int):Prop:=w.heap[b]?=some (.cells (L.map fun x=>Value.int .i64 x).toArray e)
theorem Ints.lt {w:World}{e:TypeId}{b:Nat}{L:List Int}(h:Ints w e b L):b<w.heap.size:=lt_of_block h
theorem Ints.cell {w:World}{e:TypeId}{b:Nat}{L:List Int}(h:Ints w e b L){i:Nat}(hi:i<L.length):w.cell? ⟨b,i,none⟩=some (.int .i64 (L.getD i 0)):=by
 unfold Ints at h
 simp[World.cell?,h,hi,List.getD]
theorem Ints.free {w:World} {e:TypeId} {b:Nat} {L:List Int} (h:Ints w e b L) (i:Nat):w.frozen? ⟨b,i,none⟩=false:=by
 unfold Ints at h
 simp[World.frozen?,h]
theorem Ints.set {w:World}{e:TypeId}{b:Nat}{L:List Int}(h:Ints w e b L) (i:Nat) (x:Int):Ints (w.setCell ⟨b,i,none⟩ (.int .i64 x)) e b (L.set i x):=by
 unfold Ints at h⊢
 rw[heap_setCell_same w b i _ _ _ h]
 simp
theorem Ints.below {w w':World} {e:TypeId} {b:Nat} {L:List Int}(h:Ints w e b L) (hb:Below w.heap.size w w'):Ints w' e b L:=(hb.block _ h.lt).trans h
theorem Ints.alloc {w:World} {e:TypeId} {b:Nat} {L:List Int}(h:Ints w e b L) (o:Obj):Ints (w.alloc o) e b L:=h.below (below_alloc w o)
theorem ints_made (w:World) (e:TypeId) (n:Nat):Ints (w.alloc (.cells (madeCells #[.int .i64 0] n) e)) e w.heap.size (List.replicate n 0):=by
 unfold Ints
 rw[heap_alloc_at _ _ _ rfl]
 congr 2
 apply Array.toList_inj.1
 rw[toList_madeCells_one]
 simp
theorem Ints.owns {w:World}{e:TypeId}{b:Nat}{L:List Int}(h:Ints w e b L) (base:Nat) (hb:base≤b) (hm:L.length≤maxLen):w.ownsRow base e kI.size (.slice (some ⟨b,0,none⟩) L.length L.length) L.length (kI.flat L):=by
 have hlt:=h.lt
 refine ⟨?_,Or.inr ⟨b,L.length,(L.map fun x=>Value.int .i64 x).toArray,rfl,hb,h,Nat.le_refl _,hm,by simp[kI],?_⟩⟩
 ·rw[kI.flat_length]
 ·rw[kI_flat];simp only[kI,Nat.mul_one];rw[List.take_of_length_le (by simp)]
theorem Ints.row {w:World}{e:TypeId}{b:Nat}{L:List Int} (h:Ints w e b L) (base:Nat) (hb:base≤b) (hm:L.length≤maxLen):Row kI e w base (.slice (some ⟨b,0,none⟩) L.length L.length) L:=.own _ _ (h.owns base hb hm)
theorem own_put {w:World}{e:TypeId}{base:Nat}{v:Value}{L:List Int} (h:w.ownsRow base e kI.size v L.length (kI.flat L)) {i:Nat} (hi:i<L.length):
  ∃g cap,v=.slice (some ⟨g,0,none⟩) L.length cap∧base≤g∧g<w.heap.size∧L.length≤cap∧w.cell? ⟨g,i,none⟩=some (.int .i64 (L.getD i 0))∧w.frozen? ⟨g,i,none⟩=false∧
   ∀x,(w.setCell ⟨g,i,none⟩ (.int .i64 x)).ownsRow base e kI.size v (L.set i x).length (kI.flat (L.set i x)):=by
 obtain ⟨a,cap,hv,hl,hp,hn,hlt⟩:=lies_of_owns h
 rcases h.2 with ⟨-,h0⟩|⟨g,cap',cur,hv',hg,hh,hnc,hm,hc,hx⟩
 ·omega
 ·subst hv'
  obtain ⟨b,off,ha,-,hcell⟩:=int_cell hl hi
  obtain ⟨h1,-,h3⟩:=Value.slice.inj hv
  subst h1
  cases ha
  rw[Nat.zero_add] at hcell
  refine ⟨g,cap',rfl,hg,lt_of_block hh,hnc,hcell,by simp[World.frozen?,hh],fun x=>?_⟩
  have:= (World.ownsRow.stored (w:=w) h i (.int .i64 x)).1
  rw[kI_flat] at this
  rw[kI_flat,List.length_set,List.map_set]
  exact this
end Go.Proofs.YtofcnebekmjdoaaGreatDoor.Gn
